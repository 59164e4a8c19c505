/-
  What lets the law SlicerRises go at once.
-/
import Derived.Test.YtdacfnodihannaaSlRise
namespace Go.Proofs.Ytdacfnodihannaa
open Go.ChangeShapes Go.WideShapes Go.ChangeAt Go.RowKit Go.Lib SL

set_option maxRecDepth 100000 in
set_option maxHeartbeats 8000000 in
theorem rises_few (w : World) (k : Int) (i t c s : ByteArray) (sd q p al st en ra sh : Int) (a : Option Addr) (cap : Nat) (cz : List Int) (x : Opc) (m0 m1 m2 : Int) (hf : few27 i t c s cz.length = false) : Calls Try.prog 4 #[.agg #[.int .i64 k, .string i, .string t, .string c, .string s, .int .i64 sd, .int .i64 q, .int .i64 p, .int .i64 al, .int .i64 st, .int .i64 en, .int .i64 ra, .int .i64 sh, .slice a cz.length cap], .agg x.cells, .agg #[.int .i64 m0, .int .i64 m1, .int .i64 m2]] w fun e w' => e = .returned (.bool true) ∧ Below w.heap.size w w' := by
  have I0 : Hid (Inp w (((w.alloc (.cells #[.int .i64 k, .string i, .string t, .string c, .string s, .int .i64 sd, .int .i64 q, .int .i64 p, .int .i64 al, .int .i64 st, .int .i64 en, .int .i64 ra, .int .i64 sh, .slice a cz.length cap] 28)).alloc (.cells x.cells 23)).alloc (.cells #[.int .i64 m0, .int .i64 m1, .int .i64 m2] 44)) w.heap.size ⟨k, i, t, c, s, sd, q, p, al, st, en, ra, sh, cz, 0⟩ (.slice a cz.length cap) x m0 m1 m2) := inp_new w ⟨k, i, t, c, s, sd, q, p, al, st, en, ra, sh, cz, 0⟩ (.slice a cz.length cap) x m0 m1 m2 _ _ _
  have G1 := awake27_any (((w.alloc (.cells #[.int .i64 k, .string i, .string t, .string c, .string s, .int .i64 sd, .int .i64 q, .int .i64 p, .int .i64 al, .int .i64 st, .int .i64 en, .int .i64 ra, .int .i64 sh, .slice a cz.length cap] 28)).alloc (.cells x.cells 23)).alloc (.cells #[.int .i64 m0, .int .i64 m1, .int .i64 m2] 44))
  go_enter Try.func4, Try.ntmps4
  go_wp2_with fail
  refine G1.mono ?_
  rintro e w1 ⟨rfl, b1⟩
  have I1 := I0.out.more b1
  have c0 : w1.cell? ⟨w.heap.size, 0, none⟩ = some (.int .i64 k) := I1.box.cell 0 (by omega)
  have c1 : w1.cell? ⟨w.heap.size, 1, none⟩ = some (.string i) := I1.box.cell 1 (by omega)
  have c2 : w1.cell? ⟨w.heap.size, 2, none⟩ = some (.string t) := I1.box.cell 2 (by omega)
  have c3 : w1.cell? ⟨w.heap.size, 3, none⟩ = some (.string c) := I1.box.cell 3 (by omega)
  have c4 : w1.cell? ⟨w.heap.size, 4, none⟩ = some (.string s) := I1.box.cell 4 (by omega)
  have c5 : w1.cell? ⟨w.heap.size, 5, none⟩ = some (.int .i64 sd) := I1.box.cell 5 (by omega)
  have c6 : w1.cell? ⟨w.heap.size, 6, none⟩ = some (.int .i64 q) := I1.box.cell 6 (by omega)
  have c7 : w1.cell? ⟨w.heap.size, 7, none⟩ = some (.int .i64 p) := I1.box.cell 7 (by omega)
  have c8 : w1.cell? ⟨w.heap.size, 8, none⟩ = some (.int .i64 al) := I1.box.cell 8 (by omega)
  have c9 : w1.cell? ⟨w.heap.size, 9, none⟩ = some (.int .i64 st) := I1.box.cell 9 (by omega)
  have c10 : w1.cell? ⟨w.heap.size, 10, none⟩ = some (.int .i64 en) := I1.box.cell 10 (by omega)
  have c11 : w1.cell? ⟨w.heap.size, 11, none⟩ = some (.int .i64 ra) := I1.box.cell 11 (by omega)
  have c12 : w1.cell? ⟨w.heap.size, 12, none⟩ = some (.int .i64 sh) := I1.box.cell 12 (by omega)
  have c13 : w1.cell? ⟨w.heap.size, 13, none⟩ = some (.slice a cz.length cap) := I1.box.cell 13 (by omega)
  have G2 := few27_any k i t c s sd q p al st en ra sh a cz.length cap w1
  rw [hf] at G2
  clear I0 G1 b1
  go_wp2_with fail
  refine G2.mono ?_
  rintro e w2 ⟨rfl, b2⟩
  have I2 : Hid (Inp w (w2) w.heap.size ⟨k, i, t, c, s, sd, q, p, al, st, en, ra, sh, cz, 0⟩ (.slice a cz.length cap) x m0 m1 m2) := I1.more b2
  clear c0 c1 c2 c3 c4 c5 c6 c7 c8 c9 c10 c11 c12 c13 I1 G2
  have q1 := I2.out.o1
  have q2 := I2.out.o2
  have q3 := I2.out.o3
  have u0 := I2.out.s0
  have u1 := I2.out.s1
  have u2 := I2.out.s2
  have HB : Hid (Below w.heap.size w w2) := I2.out.bel
  clear I2 q1 q2 q3 u0 u1 u2
  go_wp2_with fail
  go_ret
  exact ⟨rfl, HB.out⟩
set_option maxRecDepth 100000 in
set_option maxHeartbeats 8000000 in
theorem rises_idle (w : World) (k : Int) (i t c s : ByteArray) (sd q p al st en ra sh : Int) (a : Option Addr) (cap : Nat) (cz : List Int) (x : Opc) (m0 m1 m2 : Int) (hf : few27 i t c s cz.length = true) (hi : m0 < 0 ∨ m1 < 0 ∨ m2 < 0 ∨ 1099511627776 < m0 ∨ 1099511627776 < m1 ∨ 1099511627776 < m2 ∨ x.a < 0 ∨ x.b < 0 ∨ x.c < 0 ∨ 1099511627776 < x.a ∨ 1152921504606846976 < x.b ∨ 1099511627776 < x.c) : Calls Try.prog 4 #[.agg #[.int .i64 k, .string i, .string t, .string c, .string s, .int .i64 sd, .int .i64 q, .int .i64 p, .int .i64 al, .int .i64 st, .int .i64 en, .int .i64 ra, .int .i64 sh, .slice a cz.length cap], .agg x.cells, .agg #[.int .i64 m0, .int .i64 m1, .int .i64 m2]] w fun e w' => e = .returned (.bool true) ∧ Below w.heap.size w w' := by
  have I0 : Hid (Inp w (((w.alloc (.cells #[.int .i64 k, .string i, .string t, .string c, .string s, .int .i64 sd, .int .i64 q, .int .i64 p, .int .i64 al, .int .i64 st, .int .i64 en, .int .i64 ra, .int .i64 sh, .slice a cz.length cap] 28)).alloc (.cells x.cells 23)).alloc (.cells #[.int .i64 m0, .int .i64 m1, .int .i64 m2] 44)) w.heap.size ⟨k, i, t, c, s, sd, q, p, al, st, en, ra, sh, cz, 0⟩ (.slice a cz.length cap) x m0 m1 m2) := inp_new w ⟨k, i, t, c, s, sd, q, p, al, st, en, ra, sh, cz, 0⟩ (.slice a cz.length cap) x m0 m1 m2 _ _ _
  have G1 := awake27_any (((w.alloc (.cells #[.int .i64 k, .string i, .string t, .string c, .string s, .int .i64 sd, .int .i64 q, .int .i64 p, .int .i64 al, .int .i64 st, .int .i64 en, .int .i64 ra, .int .i64 sh, .slice a cz.length cap] 28)).alloc (.cells x.cells 23)).alloc (.cells #[.int .i64 m0, .int .i64 m1, .int .i64 m2] 44))
  by_cases t0 : m0 < 0
  · clear hi
    go_enter Try.func4, Try.ntmps4
    go_wp2_with fail
    refine G1.mono ?_
    rintro e w1 ⟨rfl, b1⟩
    have I1 := I0.out.more b1
    have c0 : w1.cell? ⟨w.heap.size, 0, none⟩ = some (.int .i64 k) := I1.box.cell 0 (by omega)
    have c1 : w1.cell? ⟨w.heap.size, 1, none⟩ = some (.string i) := I1.box.cell 1 (by omega)
    have c2 : w1.cell? ⟨w.heap.size, 2, none⟩ = some (.string t) := I1.box.cell 2 (by omega)
    have c3 : w1.cell? ⟨w.heap.size, 3, none⟩ = some (.string c) := I1.box.cell 3 (by omega)
    have c4 : w1.cell? ⟨w.heap.size, 4, none⟩ = some (.string s) := I1.box.cell 4 (by omega)
    have c5 : w1.cell? ⟨w.heap.size, 5, none⟩ = some (.int .i64 sd) := I1.box.cell 5 (by omega)
    have c6 : w1.cell? ⟨w.heap.size, 6, none⟩ = some (.int .i64 q) := I1.box.cell 6 (by omega)
    have c7 : w1.cell? ⟨w.heap.size, 7, none⟩ = some (.int .i64 p) := I1.box.cell 7 (by omega)
    have c8 : w1.cell? ⟨w.heap.size, 8, none⟩ = some (.int .i64 al) := I1.box.cell 8 (by omega)
    have c9 : w1.cell? ⟨w.heap.size, 9, none⟩ = some (.int .i64 st) := I1.box.cell 9 (by omega)
    have c10 : w1.cell? ⟨w.heap.size, 10, none⟩ = some (.int .i64 en) := I1.box.cell 10 (by omega)
    have c11 : w1.cell? ⟨w.heap.size, 11, none⟩ = some (.int .i64 ra) := I1.box.cell 11 (by omega)
    have c12 : w1.cell? ⟨w.heap.size, 12, none⟩ = some (.int .i64 sh) := I1.box.cell 12 (by omega)
    have c13 : w1.cell? ⟨w.heap.size, 13, none⟩ = some (.slice a cz.length cap) := I1.box.cell 13 (by omega)
    have G2 := few27_any k i t c s sd q p al st en ra sh a cz.length cap w1
    rw [hf] at G2
    clear I0 G1 b1
    go_wp2_with fail
    refine G2.mono ?_
    rintro e w2 ⟨rfl, b2⟩
    have I2 : Hid (Inp w (w2) w.heap.size ⟨k, i, t, c, s, sd, q, p, al, st, en, ra, sh, cz, 0⟩ (.slice a cz.length cap) x m0 m1 m2) := I1.more b2
    clear c0 c1 c2 c3 c4 c5 c6 c7 c8 c9 c10 c11 c12 c13 I1 G2
    have q1 := I2.out.o1
    have q2 := I2.out.o2
    have q3 := I2.out.o3
    have u0 := I2.out.s0
    have u1 := I2.out.s1
    have u2 := I2.out.s2
    have HB : Hid (Below w.heap.size w w2) := I2.out.bel
    clear I2
    go_wp2_with fail
    go_ret
    exact ⟨rfl, HB.out⟩
  by_cases t1 : m1 < 0
  · clear hi
    go_enter Try.func4, Try.ntmps4
    go_wp2_with fail
    refine G1.mono ?_
    rintro e w1 ⟨rfl, b1⟩
    have I1 := I0.out.more b1
    have c0 : w1.cell? ⟨w.heap.size, 0, none⟩ = some (.int .i64 k) := I1.box.cell 0 (by omega)
    have c1 : w1.cell? ⟨w.heap.size, 1, none⟩ = some (.string i) := I1.box.cell 1 (by omega)
    have c2 : w1.cell? ⟨w.heap.size, 2, none⟩ = some (.string t) := I1.box.cell 2 (by omega)
    have c3 : w1.cell? ⟨w.heap.size, 3, none⟩ = some (.string c) := I1.box.cell 3 (by omega)
    have c4 : w1.cell? ⟨w.heap.size, 4, none⟩ = some (.string s) := I1.box.cell 4 (by omega)
    have c5 : w1.cell? ⟨w.heap.size, 5, none⟩ = some (.int .i64 sd) := I1.box.cell 5 (by omega)
    have c6 : w1.cell? ⟨w.heap.size, 6, none⟩ = some (.int .i64 q) := I1.box.cell 6 (by omega)
    have c7 : w1.cell? ⟨w.heap.size, 7, none⟩ = some (.int .i64 p) := I1.box.cell 7 (by omega)
    have c8 : w1.cell? ⟨w.heap.size, 8, none⟩ = some (.int .i64 al) := I1.box.cell 8 (by omega)
    have c9 : w1.cell? ⟨w.heap.size, 9, none⟩ = some (.int .i64 st) := I1.box.cell 9 (by omega)
    have c10 : w1.cell? ⟨w.heap.size, 10, none⟩ = some (.int .i64 en) := I1.box.cell 10 (by omega)
    have c11 : w1.cell? ⟨w.heap.size, 11, none⟩ = some (.int .i64 ra) := I1.box.cell 11 (by omega)
    have c12 : w1.cell? ⟨w.heap.size, 12, none⟩ = some (.int .i64 sh) := I1.box.cell 12 (by omega)
    have c13 : w1.cell? ⟨w.heap.size, 13, none⟩ = some (.slice a cz.length cap) := I1.box.cell 13 (by omega)
    have G2 := few27_any k i t c s sd q p al st en ra sh a cz.length cap w1
    rw [hf] at G2
    clear I0 G1 b1
    go_wp2_with fail
    refine G2.mono ?_
    rintro e w2 ⟨rfl, b2⟩
    have I2 : Hid (Inp w (w2) w.heap.size ⟨k, i, t, c, s, sd, q, p, al, st, en, ra, sh, cz, 0⟩ (.slice a cz.length cap) x m0 m1 m2) := I1.more b2
    clear c0 c1 c2 c3 c4 c5 c6 c7 c8 c9 c10 c11 c12 c13 I1 G2
    have q1 := I2.out.o1
    have q2 := I2.out.o2
    have q3 := I2.out.o3
    have u0 := I2.out.s0
    have u1 := I2.out.s1
    have u2 := I2.out.s2
    have HB : Hid (Below w.heap.size w w2) := I2.out.bel
    clear I2
    go_wp2_with fail
    go_ret
    exact ⟨rfl, HB.out⟩
  by_cases t2 : m2 < 0
  · clear hi
    go_enter Try.func4, Try.ntmps4
    go_wp2_with fail
    refine G1.mono ?_
    rintro e w1 ⟨rfl, b1⟩
    have I1 := I0.out.more b1
    have c0 : w1.cell? ⟨w.heap.size, 0, none⟩ = some (.int .i64 k) := I1.box.cell 0 (by omega)
    have c1 : w1.cell? ⟨w.heap.size, 1, none⟩ = some (.string i) := I1.box.cell 1 (by omega)
    have c2 : w1.cell? ⟨w.heap.size, 2, none⟩ = some (.string t) := I1.box.cell 2 (by omega)
    have c3 : w1.cell? ⟨w.heap.size, 3, none⟩ = some (.string c) := I1.box.cell 3 (by omega)
    have c4 : w1.cell? ⟨w.heap.size, 4, none⟩ = some (.string s) := I1.box.cell 4 (by omega)
    have c5 : w1.cell? ⟨w.heap.size, 5, none⟩ = some (.int .i64 sd) := I1.box.cell 5 (by omega)
    have c6 : w1.cell? ⟨w.heap.size, 6, none⟩ = some (.int .i64 q) := I1.box.cell 6 (by omega)
    have c7 : w1.cell? ⟨w.heap.size, 7, none⟩ = some (.int .i64 p) := I1.box.cell 7 (by omega)
    have c8 : w1.cell? ⟨w.heap.size, 8, none⟩ = some (.int .i64 al) := I1.box.cell 8 (by omega)
    have c9 : w1.cell? ⟨w.heap.size, 9, none⟩ = some (.int .i64 st) := I1.box.cell 9 (by omega)
    have c10 : w1.cell? ⟨w.heap.size, 10, none⟩ = some (.int .i64 en) := I1.box.cell 10 (by omega)
    have c11 : w1.cell? ⟨w.heap.size, 11, none⟩ = some (.int .i64 ra) := I1.box.cell 11 (by omega)
    have c12 : w1.cell? ⟨w.heap.size, 12, none⟩ = some (.int .i64 sh) := I1.box.cell 12 (by omega)
    have c13 : w1.cell? ⟨w.heap.size, 13, none⟩ = some (.slice a cz.length cap) := I1.box.cell 13 (by omega)
    have G2 := few27_any k i t c s sd q p al st en ra sh a cz.length cap w1
    rw [hf] at G2
    clear I0 G1 b1
    go_wp2_with fail
    refine G2.mono ?_
    rintro e w2 ⟨rfl, b2⟩
    have I2 : Hid (Inp w (w2) w.heap.size ⟨k, i, t, c, s, sd, q, p, al, st, en, ra, sh, cz, 0⟩ (.slice a cz.length cap) x m0 m1 m2) := I1.more b2
    clear c0 c1 c2 c3 c4 c5 c6 c7 c8 c9 c10 c11 c12 c13 I1 G2
    have q1 := I2.out.o1
    have q2 := I2.out.o2
    have q3 := I2.out.o3
    have u0 := I2.out.s0
    have u1 := I2.out.s1
    have u2 := I2.out.s2
    have HB : Hid (Below w.heap.size w w2) := I2.out.bel
    clear I2
    go_wp2_with fail
    go_ret
    exact ⟨rfl, HB.out⟩
  by_cases t3 : 1099511627776 < m0
  · clear hi
    go_enter Try.func4, Try.ntmps4
    go_wp2_with fail
    refine G1.mono ?_
    rintro e w1 ⟨rfl, b1⟩
    have I1 := I0.out.more b1
    have c0 : w1.cell? ⟨w.heap.size, 0, none⟩ = some (.int .i64 k) := I1.box.cell 0 (by omega)
    have c1 : w1.cell? ⟨w.heap.size, 1, none⟩ = some (.string i) := I1.box.cell 1 (by omega)
    have c2 : w1.cell? ⟨w.heap.size, 2, none⟩ = some (.string t) := I1.box.cell 2 (by omega)
    have c3 : w1.cell? ⟨w.heap.size, 3, none⟩ = some (.string c) := I1.box.cell 3 (by omega)
    have c4 : w1.cell? ⟨w.heap.size, 4, none⟩ = some (.string s) := I1.box.cell 4 (by omega)
    have c5 : w1.cell? ⟨w.heap.size, 5, none⟩ = some (.int .i64 sd) := I1.box.cell 5 (by omega)
    have c6 : w1.cell? ⟨w.heap.size, 6, none⟩ = some (.int .i64 q) := I1.box.cell 6 (by omega)
    have c7 : w1.cell? ⟨w.heap.size, 7, none⟩ = some (.int .i64 p) := I1.box.cell 7 (by omega)
    have c8 : w1.cell? ⟨w.heap.size, 8, none⟩ = some (.int .i64 al) := I1.box.cell 8 (by omega)
    have c9 : w1.cell? ⟨w.heap.size, 9, none⟩ = some (.int .i64 st) := I1.box.cell 9 (by omega)
    have c10 : w1.cell? ⟨w.heap.size, 10, none⟩ = some (.int .i64 en) := I1.box.cell 10 (by omega)
    have c11 : w1.cell? ⟨w.heap.size, 11, none⟩ = some (.int .i64 ra) := I1.box.cell 11 (by omega)
    have c12 : w1.cell? ⟨w.heap.size, 12, none⟩ = some (.int .i64 sh) := I1.box.cell 12 (by omega)
    have c13 : w1.cell? ⟨w.heap.size, 13, none⟩ = some (.slice a cz.length cap) := I1.box.cell 13 (by omega)
    have G2 := few27_any k i t c s sd q p al st en ra sh a cz.length cap w1
    rw [hf] at G2
    clear I0 G1 b1
    go_wp2_with fail
    refine G2.mono ?_
    rintro e w2 ⟨rfl, b2⟩
    have I2 : Hid (Inp w (w2) w.heap.size ⟨k, i, t, c, s, sd, q, p, al, st, en, ra, sh, cz, 0⟩ (.slice a cz.length cap) x m0 m1 m2) := I1.more b2
    clear c0 c1 c2 c3 c4 c5 c6 c7 c8 c9 c10 c11 c12 c13 I1 G2
    have q1 := I2.out.o1
    have q2 := I2.out.o2
    have q3 := I2.out.o3
    have u0 := I2.out.s0
    have u1 := I2.out.s1
    have u2 := I2.out.s2
    have HB : Hid (Below w.heap.size w w2) := I2.out.bel
    clear I2
    go_wp2_with fail
    go_ret
    exact ⟨rfl, HB.out⟩
  by_cases t4 : 1099511627776 < m1
  · clear hi
    go_enter Try.func4, Try.ntmps4
    go_wp2_with fail
    refine G1.mono ?_
    rintro e w1 ⟨rfl, b1⟩
    have I1 := I0.out.more b1
    have c0 : w1.cell? ⟨w.heap.size, 0, none⟩ = some (.int .i64 k) := I1.box.cell 0 (by omega)
    have c1 : w1.cell? ⟨w.heap.size, 1, none⟩ = some (.string i) := I1.box.cell 1 (by omega)
    have c2 : w1.cell? ⟨w.heap.size, 2, none⟩ = some (.string t) := I1.box.cell 2 (by omega)
    have c3 : w1.cell? ⟨w.heap.size, 3, none⟩ = some (.string c) := I1.box.cell 3 (by omega)
    have c4 : w1.cell? ⟨w.heap.size, 4, none⟩ = some (.string s) := I1.box.cell 4 (by omega)
    have c5 : w1.cell? ⟨w.heap.size, 5, none⟩ = some (.int .i64 sd) := I1.box.cell 5 (by omega)
    have c6 : w1.cell? ⟨w.heap.size, 6, none⟩ = some (.int .i64 q) := I1.box.cell 6 (by omega)
    have c7 : w1.cell? ⟨w.heap.size, 7, none⟩ = some (.int .i64 p) := I1.box.cell 7 (by omega)
    have c8 : w1.cell? ⟨w.heap.size, 8, none⟩ = some (.int .i64 al) := I1.box.cell 8 (by omega)
    have c9 : w1.cell? ⟨w.heap.size, 9, none⟩ = some (.int .i64 st) := I1.box.cell 9 (by omega)
    have c10 : w1.cell? ⟨w.heap.size, 10, none⟩ = some (.int .i64 en) := I1.box.cell 10 (by omega)
    have c11 : w1.cell? ⟨w.heap.size, 11, none⟩ = some (.int .i64 ra) := I1.box.cell 11 (by omega)
    have c12 : w1.cell? ⟨w.heap.size, 12, none⟩ = some (.int .i64 sh) := I1.box.cell 12 (by omega)
    have c13 : w1.cell? ⟨w.heap.size, 13, none⟩ = some (.slice a cz.length cap) := I1.box.cell 13 (by omega)
    have G2 := few27_any k i t c s sd q p al st en ra sh a cz.length cap w1
    rw [hf] at G2
    clear I0 G1 b1
    go_wp2_with fail
    refine G2.mono ?_
    rintro e w2 ⟨rfl, b2⟩
    have I2 : Hid (Inp w (w2) w.heap.size ⟨k, i, t, c, s, sd, q, p, al, st, en, ra, sh, cz, 0⟩ (.slice a cz.length cap) x m0 m1 m2) := I1.more b2
    clear c0 c1 c2 c3 c4 c5 c6 c7 c8 c9 c10 c11 c12 c13 I1 G2
    have q1 := I2.out.o1
    have q2 := I2.out.o2
    have q3 := I2.out.o3
    have u0 := I2.out.s0
    have u1 := I2.out.s1
    have u2 := I2.out.s2
    have HB : Hid (Below w.heap.size w w2) := I2.out.bel
    clear I2
    go_wp2_with fail
    go_ret
    exact ⟨rfl, HB.out⟩
  by_cases t5 : 1099511627776 < m2
  · clear hi
    go_enter Try.func4, Try.ntmps4
    go_wp2_with fail
    refine G1.mono ?_
    rintro e w1 ⟨rfl, b1⟩
    have I1 := I0.out.more b1
    have c0 : w1.cell? ⟨w.heap.size, 0, none⟩ = some (.int .i64 k) := I1.box.cell 0 (by omega)
    have c1 : w1.cell? ⟨w.heap.size, 1, none⟩ = some (.string i) := I1.box.cell 1 (by omega)
    have c2 : w1.cell? ⟨w.heap.size, 2, none⟩ = some (.string t) := I1.box.cell 2 (by omega)
    have c3 : w1.cell? ⟨w.heap.size, 3, none⟩ = some (.string c) := I1.box.cell 3 (by omega)
    have c4 : w1.cell? ⟨w.heap.size, 4, none⟩ = some (.string s) := I1.box.cell 4 (by omega)
    have c5 : w1.cell? ⟨w.heap.size, 5, none⟩ = some (.int .i64 sd) := I1.box.cell 5 (by omega)
    have c6 : w1.cell? ⟨w.heap.size, 6, none⟩ = some (.int .i64 q) := I1.box.cell 6 (by omega)
    have c7 : w1.cell? ⟨w.heap.size, 7, none⟩ = some (.int .i64 p) := I1.box.cell 7 (by omega)
    have c8 : w1.cell? ⟨w.heap.size, 8, none⟩ = some (.int .i64 al) := I1.box.cell 8 (by omega)
    have c9 : w1.cell? ⟨w.heap.size, 9, none⟩ = some (.int .i64 st) := I1.box.cell 9 (by omega)
    have c10 : w1.cell? ⟨w.heap.size, 10, none⟩ = some (.int .i64 en) := I1.box.cell 10 (by omega)
    have c11 : w1.cell? ⟨w.heap.size, 11, none⟩ = some (.int .i64 ra) := I1.box.cell 11 (by omega)
    have c12 : w1.cell? ⟨w.heap.size, 12, none⟩ = some (.int .i64 sh) := I1.box.cell 12 (by omega)
    have c13 : w1.cell? ⟨w.heap.size, 13, none⟩ = some (.slice a cz.length cap) := I1.box.cell 13 (by omega)
    have G2 := few27_any k i t c s sd q p al st en ra sh a cz.length cap w1
    rw [hf] at G2
    clear I0 G1 b1
    go_wp2_with fail
    refine G2.mono ?_
    rintro e w2 ⟨rfl, b2⟩
    have I2 : Hid (Inp w (w2) w.heap.size ⟨k, i, t, c, s, sd, q, p, al, st, en, ra, sh, cz, 0⟩ (.slice a cz.length cap) x m0 m1 m2) := I1.more b2
    clear c0 c1 c2 c3 c4 c5 c6 c7 c8 c9 c10 c11 c12 c13 I1 G2
    have q1 := I2.out.o1
    have q2 := I2.out.o2
    have q3 := I2.out.o3
    have u0 := I2.out.s0
    have u1 := I2.out.s1
    have u2 := I2.out.s2
    have HB : Hid (Below w.heap.size w w2) := I2.out.bel
    clear I2
    go_wp2_with fail
    go_ret
    exact ⟨rfl, HB.out⟩
  by_cases t6 : x.a < 0
  · clear hi
    go_enter Try.func4, Try.ntmps4
    go_wp2_with fail
    refine G1.mono ?_
    rintro e w1 ⟨rfl, b1⟩
    have I1 := I0.out.more b1
    have c0 : w1.cell? ⟨w.heap.size, 0, none⟩ = some (.int .i64 k) := I1.box.cell 0 (by omega)
    have c1 : w1.cell? ⟨w.heap.size, 1, none⟩ = some (.string i) := I1.box.cell 1 (by omega)
    have c2 : w1.cell? ⟨w.heap.size, 2, none⟩ = some (.string t) := I1.box.cell 2 (by omega)
    have c3 : w1.cell? ⟨w.heap.size, 3, none⟩ = some (.string c) := I1.box.cell 3 (by omega)
    have c4 : w1.cell? ⟨w.heap.size, 4, none⟩ = some (.string s) := I1.box.cell 4 (by omega)
    have c5 : w1.cell? ⟨w.heap.size, 5, none⟩ = some (.int .i64 sd) := I1.box.cell 5 (by omega)
    have c6 : w1.cell? ⟨w.heap.size, 6, none⟩ = some (.int .i64 q) := I1.box.cell 6 (by omega)
    have c7 : w1.cell? ⟨w.heap.size, 7, none⟩ = some (.int .i64 p) := I1.box.cell 7 (by omega)
    have c8 : w1.cell? ⟨w.heap.size, 8, none⟩ = some (.int .i64 al) := I1.box.cell 8 (by omega)
    have c9 : w1.cell? ⟨w.heap.size, 9, none⟩ = some (.int .i64 st) := I1.box.cell 9 (by omega)
    have c10 : w1.cell? ⟨w.heap.size, 10, none⟩ = some (.int .i64 en) := I1.box.cell 10 (by omega)
    have c11 : w1.cell? ⟨w.heap.size, 11, none⟩ = some (.int .i64 ra) := I1.box.cell 11 (by omega)
    have c12 : w1.cell? ⟨w.heap.size, 12, none⟩ = some (.int .i64 sh) := I1.box.cell 12 (by omega)
    have c13 : w1.cell? ⟨w.heap.size, 13, none⟩ = some (.slice a cz.length cap) := I1.box.cell 13 (by omega)
    have G2 := few27_any k i t c s sd q p al st en ra sh a cz.length cap w1
    rw [hf] at G2
    clear I0 G1 b1
    go_wp2_with fail
    refine G2.mono ?_
    rintro e w2 ⟨rfl, b2⟩
    have I2 : Hid (Inp w (w2) w.heap.size ⟨k, i, t, c, s, sd, q, p, al, st, en, ra, sh, cz, 0⟩ (.slice a cz.length cap) x m0 m1 m2) := I1.more b2
    clear c0 c1 c2 c3 c4 c5 c6 c7 c8 c9 c10 c11 c12 c13 I1 G2
    have q1 := I2.out.o1
    have q2 := I2.out.o2
    have q3 := I2.out.o3
    have u0 := I2.out.s0
    have u1 := I2.out.s1
    have u2 := I2.out.s2
    have HB : Hid (Below w.heap.size w w2) := I2.out.bel
    clear I2
    go_wp2_with fail
    go_ret
    exact ⟨rfl, HB.out⟩
  by_cases t7 : x.b < 0
  · clear hi
    go_enter Try.func4, Try.ntmps4
    go_wp2_with fail
    refine G1.mono ?_
    rintro e w1 ⟨rfl, b1⟩
    have I1 := I0.out.more b1
    have c0 : w1.cell? ⟨w.heap.size, 0, none⟩ = some (.int .i64 k) := I1.box.cell 0 (by omega)
    have c1 : w1.cell? ⟨w.heap.size, 1, none⟩ = some (.string i) := I1.box.cell 1 (by omega)
    have c2 : w1.cell? ⟨w.heap.size, 2, none⟩ = some (.string t) := I1.box.cell 2 (by omega)
    have c3 : w1.cell? ⟨w.heap.size, 3, none⟩ = some (.string c) := I1.box.cell 3 (by omega)
    have c4 : w1.cell? ⟨w.heap.size, 4, none⟩ = some (.string s) := I1.box.cell 4 (by omega)
    have c5 : w1.cell? ⟨w.heap.size, 5, none⟩ = some (.int .i64 sd) := I1.box.cell 5 (by omega)
    have c6 : w1.cell? ⟨w.heap.size, 6, none⟩ = some (.int .i64 q) := I1.box.cell 6 (by omega)
    have c7 : w1.cell? ⟨w.heap.size, 7, none⟩ = some (.int .i64 p) := I1.box.cell 7 (by omega)
    have c8 : w1.cell? ⟨w.heap.size, 8, none⟩ = some (.int .i64 al) := I1.box.cell 8 (by omega)
    have c9 : w1.cell? ⟨w.heap.size, 9, none⟩ = some (.int .i64 st) := I1.box.cell 9 (by omega)
    have c10 : w1.cell? ⟨w.heap.size, 10, none⟩ = some (.int .i64 en) := I1.box.cell 10 (by omega)
    have c11 : w1.cell? ⟨w.heap.size, 11, none⟩ = some (.int .i64 ra) := I1.box.cell 11 (by omega)
    have c12 : w1.cell? ⟨w.heap.size, 12, none⟩ = some (.int .i64 sh) := I1.box.cell 12 (by omega)
    have c13 : w1.cell? ⟨w.heap.size, 13, none⟩ = some (.slice a cz.length cap) := I1.box.cell 13 (by omega)
    have G2 := few27_any k i t c s sd q p al st en ra sh a cz.length cap w1
    rw [hf] at G2
    clear I0 G1 b1
    go_wp2_with fail
    refine G2.mono ?_
    rintro e w2 ⟨rfl, b2⟩
    have I2 : Hid (Inp w (w2) w.heap.size ⟨k, i, t, c, s, sd, q, p, al, st, en, ra, sh, cz, 0⟩ (.slice a cz.length cap) x m0 m1 m2) := I1.more b2
    clear c0 c1 c2 c3 c4 c5 c6 c7 c8 c9 c10 c11 c12 c13 I1 G2
    have q1 := I2.out.o1
    have q2 := I2.out.o2
    have q3 := I2.out.o3
    have u0 := I2.out.s0
    have u1 := I2.out.s1
    have u2 := I2.out.s2
    have HB : Hid (Below w.heap.size w w2) := I2.out.bel
    clear I2
    go_wp2_with fail
    go_ret
    exact ⟨rfl, HB.out⟩
  by_cases t8 : x.c < 0
  · clear hi
    go_enter Try.func4, Try.ntmps4
    go_wp2_with fail
    refine G1.mono ?_
    rintro e w1 ⟨rfl, b1⟩
    have I1 := I0.out.more b1
    have c0 : w1.cell? ⟨w.heap.size, 0, none⟩ = some (.int .i64 k) := I1.box.cell 0 (by omega)
    have c1 : w1.cell? ⟨w.heap.size, 1, none⟩ = some (.string i) := I1.box.cell 1 (by omega)
    have c2 : w1.cell? ⟨w.heap.size, 2, none⟩ = some (.string t) := I1.box.cell 2 (by omega)
    have c3 : w1.cell? ⟨w.heap.size, 3, none⟩ = some (.string c) := I1.box.cell 3 (by omega)
    have c4 : w1.cell? ⟨w.heap.size, 4, none⟩ = some (.string s) := I1.box.cell 4 (by omega)
    have c5 : w1.cell? ⟨w.heap.size, 5, none⟩ = some (.int .i64 sd) := I1.box.cell 5 (by omega)
    have c6 : w1.cell? ⟨w.heap.size, 6, none⟩ = some (.int .i64 q) := I1.box.cell 6 (by omega)
    have c7 : w1.cell? ⟨w.heap.size, 7, none⟩ = some (.int .i64 p) := I1.box.cell 7 (by omega)
    have c8 : w1.cell? ⟨w.heap.size, 8, none⟩ = some (.int .i64 al) := I1.box.cell 8 (by omega)
    have c9 : w1.cell? ⟨w.heap.size, 9, none⟩ = some (.int .i64 st) := I1.box.cell 9 (by omega)
    have c10 : w1.cell? ⟨w.heap.size, 10, none⟩ = some (.int .i64 en) := I1.box.cell 10 (by omega)
    have c11 : w1.cell? ⟨w.heap.size, 11, none⟩ = some (.int .i64 ra) := I1.box.cell 11 (by omega)
    have c12 : w1.cell? ⟨w.heap.size, 12, none⟩ = some (.int .i64 sh) := I1.box.cell 12 (by omega)
    have c13 : w1.cell? ⟨w.heap.size, 13, none⟩ = some (.slice a cz.length cap) := I1.box.cell 13 (by omega)
    have G2 := few27_any k i t c s sd q p al st en ra sh a cz.length cap w1
    rw [hf] at G2
    clear I0 G1 b1
    go_wp2_with fail
    refine G2.mono ?_
    rintro e w2 ⟨rfl, b2⟩
    have I2 : Hid (Inp w (w2) w.heap.size ⟨k, i, t, c, s, sd, q, p, al, st, en, ra, sh, cz, 0⟩ (.slice a cz.length cap) x m0 m1 m2) := I1.more b2
    clear c0 c1 c2 c3 c4 c5 c6 c7 c8 c9 c10 c11 c12 c13 I1 G2
    have q1 := I2.out.o1
    have q2 := I2.out.o2
    have q3 := I2.out.o3
    have u0 := I2.out.s0
    have u1 := I2.out.s1
    have u2 := I2.out.s2
    have HB : Hid (Below w.heap.size w w2) := I2.out.bel
    clear I2
    go_wp2_with fail
    go_ret
    exact ⟨rfl, HB.out⟩
  by_cases t9 : 1099511627776 < x.a
  · clear hi
    go_enter Try.func4, Try.ntmps4
    go_wp2_with fail
    refine G1.mono ?_
    rintro e w1 ⟨rfl, b1⟩
    have I1 := I0.out.more b1
    have c0 : w1.cell? ⟨w.heap.size, 0, none⟩ = some (.int .i64 k) := I1.box.cell 0 (by omega)
    have c1 : w1.cell? ⟨w.heap.size, 1, none⟩ = some (.string i) := I1.box.cell 1 (by omega)
    have c2 : w1.cell? ⟨w.heap.size, 2, none⟩ = some (.string t) := I1.box.cell 2 (by omega)
    have c3 : w1.cell? ⟨w.heap.size, 3, none⟩ = some (.string c) := I1.box.cell 3 (by omega)
    have c4 : w1.cell? ⟨w.heap.size, 4, none⟩ = some (.string s) := I1.box.cell 4 (by omega)
    have c5 : w1.cell? ⟨w.heap.size, 5, none⟩ = some (.int .i64 sd) := I1.box.cell 5 (by omega)
    have c6 : w1.cell? ⟨w.heap.size, 6, none⟩ = some (.int .i64 q) := I1.box.cell 6 (by omega)
    have c7 : w1.cell? ⟨w.heap.size, 7, none⟩ = some (.int .i64 p) := I1.box.cell 7 (by omega)
    have c8 : w1.cell? ⟨w.heap.size, 8, none⟩ = some (.int .i64 al) := I1.box.cell 8 (by omega)
    have c9 : w1.cell? ⟨w.heap.size, 9, none⟩ = some (.int .i64 st) := I1.box.cell 9 (by omega)
    have c10 : w1.cell? ⟨w.heap.size, 10, none⟩ = some (.int .i64 en) := I1.box.cell 10 (by omega)
    have c11 : w1.cell? ⟨w.heap.size, 11, none⟩ = some (.int .i64 ra) := I1.box.cell 11 (by omega)
    have c12 : w1.cell? ⟨w.heap.size, 12, none⟩ = some (.int .i64 sh) := I1.box.cell 12 (by omega)
    have c13 : w1.cell? ⟨w.heap.size, 13, none⟩ = some (.slice a cz.length cap) := I1.box.cell 13 (by omega)
    have G2 := few27_any k i t c s sd q p al st en ra sh a cz.length cap w1
    rw [hf] at G2
    clear I0 G1 b1
    go_wp2_with fail
    refine G2.mono ?_
    rintro e w2 ⟨rfl, b2⟩
    have I2 : Hid (Inp w (w2) w.heap.size ⟨k, i, t, c, s, sd, q, p, al, st, en, ra, sh, cz, 0⟩ (.slice a cz.length cap) x m0 m1 m2) := I1.more b2
    clear c0 c1 c2 c3 c4 c5 c6 c7 c8 c9 c10 c11 c12 c13 I1 G2
    have q1 := I2.out.o1
    have q2 := I2.out.o2
    have q3 := I2.out.o3
    have u0 := I2.out.s0
    have u1 := I2.out.s1
    have u2 := I2.out.s2
    have HB : Hid (Below w.heap.size w w2) := I2.out.bel
    clear I2
    go_wp2_with fail
    go_ret
    exact ⟨rfl, HB.out⟩
  by_cases t10 : 1152921504606846976 < x.b
  · clear hi
    go_enter Try.func4, Try.ntmps4
    go_wp2_with fail
    refine G1.mono ?_
    rintro e w1 ⟨rfl, b1⟩
    have I1 := I0.out.more b1
    have c0 : w1.cell? ⟨w.heap.size, 0, none⟩ = some (.int .i64 k) := I1.box.cell 0 (by omega)
    have c1 : w1.cell? ⟨w.heap.size, 1, none⟩ = some (.string i) := I1.box.cell 1 (by omega)
    have c2 : w1.cell? ⟨w.heap.size, 2, none⟩ = some (.string t) := I1.box.cell 2 (by omega)
    have c3 : w1.cell? ⟨w.heap.size, 3, none⟩ = some (.string c) := I1.box.cell 3 (by omega)
    have c4 : w1.cell? ⟨w.heap.size, 4, none⟩ = some (.string s) := I1.box.cell 4 (by omega)
    have c5 : w1.cell? ⟨w.heap.size, 5, none⟩ = some (.int .i64 sd) := I1.box.cell 5 (by omega)
    have c6 : w1.cell? ⟨w.heap.size, 6, none⟩ = some (.int .i64 q) := I1.box.cell 6 (by omega)
    have c7 : w1.cell? ⟨w.heap.size, 7, none⟩ = some (.int .i64 p) := I1.box.cell 7 (by omega)
    have c8 : w1.cell? ⟨w.heap.size, 8, none⟩ = some (.int .i64 al) := I1.box.cell 8 (by omega)
    have c9 : w1.cell? ⟨w.heap.size, 9, none⟩ = some (.int .i64 st) := I1.box.cell 9 (by omega)
    have c10 : w1.cell? ⟨w.heap.size, 10, none⟩ = some (.int .i64 en) := I1.box.cell 10 (by omega)
    have c11 : w1.cell? ⟨w.heap.size, 11, none⟩ = some (.int .i64 ra) := I1.box.cell 11 (by omega)
    have c12 : w1.cell? ⟨w.heap.size, 12, none⟩ = some (.int .i64 sh) := I1.box.cell 12 (by omega)
    have c13 : w1.cell? ⟨w.heap.size, 13, none⟩ = some (.slice a cz.length cap) := I1.box.cell 13 (by omega)
    have G2 := few27_any k i t c s sd q p al st en ra sh a cz.length cap w1
    rw [hf] at G2
    clear I0 G1 b1
    go_wp2_with fail
    refine G2.mono ?_
    rintro e w2 ⟨rfl, b2⟩
    have I2 : Hid (Inp w (w2) w.heap.size ⟨k, i, t, c, s, sd, q, p, al, st, en, ra, sh, cz, 0⟩ (.slice a cz.length cap) x m0 m1 m2) := I1.more b2
    clear c0 c1 c2 c3 c4 c5 c6 c7 c8 c9 c10 c11 c12 c13 I1 G2
    have q1 := I2.out.o1
    have q2 := I2.out.o2
    have q3 := I2.out.o3
    have u0 := I2.out.s0
    have u1 := I2.out.s1
    have u2 := I2.out.s2
    have HB : Hid (Below w.heap.size w w2) := I2.out.bel
    clear I2
    go_wp2_with fail
    go_ret
    exact ⟨rfl, HB.out⟩
  have t11 : 1099511627776 < x.c := by omega
  clear hi
  go_enter Try.func4, Try.ntmps4
  go_wp2_with fail
  refine G1.mono ?_
  rintro e w1 ⟨rfl, b1⟩
  have I1 := I0.out.more b1
  have c0 : w1.cell? ⟨w.heap.size, 0, none⟩ = some (.int .i64 k) := I1.box.cell 0 (by omega)
  have c1 : w1.cell? ⟨w.heap.size, 1, none⟩ = some (.string i) := I1.box.cell 1 (by omega)
  have c2 : w1.cell? ⟨w.heap.size, 2, none⟩ = some (.string t) := I1.box.cell 2 (by omega)
  have c3 : w1.cell? ⟨w.heap.size, 3, none⟩ = some (.string c) := I1.box.cell 3 (by omega)
  have c4 : w1.cell? ⟨w.heap.size, 4, none⟩ = some (.string s) := I1.box.cell 4 (by omega)
  have c5 : w1.cell? ⟨w.heap.size, 5, none⟩ = some (.int .i64 sd) := I1.box.cell 5 (by omega)
  have c6 : w1.cell? ⟨w.heap.size, 6, none⟩ = some (.int .i64 q) := I1.box.cell 6 (by omega)
  have c7 : w1.cell? ⟨w.heap.size, 7, none⟩ = some (.int .i64 p) := I1.box.cell 7 (by omega)
  have c8 : w1.cell? ⟨w.heap.size, 8, none⟩ = some (.int .i64 al) := I1.box.cell 8 (by omega)
  have c9 : w1.cell? ⟨w.heap.size, 9, none⟩ = some (.int .i64 st) := I1.box.cell 9 (by omega)
  have c10 : w1.cell? ⟨w.heap.size, 10, none⟩ = some (.int .i64 en) := I1.box.cell 10 (by omega)
  have c11 : w1.cell? ⟨w.heap.size, 11, none⟩ = some (.int .i64 ra) := I1.box.cell 11 (by omega)
  have c12 : w1.cell? ⟨w.heap.size, 12, none⟩ = some (.int .i64 sh) := I1.box.cell 12 (by omega)
  have c13 : w1.cell? ⟨w.heap.size, 13, none⟩ = some (.slice a cz.length cap) := I1.box.cell 13 (by omega)
  have G2 := few27_any k i t c s sd q p al st en ra sh a cz.length cap w1
  rw [hf] at G2
  clear I0 G1 b1
  go_wp2_with fail
  refine G2.mono ?_
  rintro e w2 ⟨rfl, b2⟩
  have I2 : Hid (Inp w (w2) w.heap.size ⟨k, i, t, c, s, sd, q, p, al, st, en, ra, sh, cz, 0⟩ (.slice a cz.length cap) x m0 m1 m2) := I1.more b2
  clear c0 c1 c2 c3 c4 c5 c6 c7 c8 c9 c10 c11 c12 c13 I1 G2
  have q1 := I2.out.o1
  have q2 := I2.out.o2
  have q3 := I2.out.o3
  have u0 := I2.out.s0
  have u1 := I2.out.s1
  have u2 := I2.out.s2
  have HB : Hid (Below w.heap.size w w2) := I2.out.bel
  clear I2
  go_wp2_with fail
  go_ret
  exact ⟨rfl, HB.out⟩
end Go.Proofs.Ytdacfnodihannaa
