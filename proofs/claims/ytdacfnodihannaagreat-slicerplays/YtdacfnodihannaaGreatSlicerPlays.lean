/-
  SlicerPlays: every play of an order that is amended, and asked how much should be out, is the document's. For every ask, volume and list of steps the Go function SlicerPlays, over the landed program, returns true and leaves all old memory as it was. No condition.
-/
import Derived.Test.YtdacfnodihannaaGreatSlDuo
import Derived.Test.YtdacfnodihannaaGreatKX
namespace Go.Proofs.YtdacfnodihannaaGreat
open Go.ChangeShapes Go.WideShapes Go.ChangeAt Go.RowKit Go.Lib SL

set_option maxRecDepth 100000 in
set_option maxHeartbeats 8000000 in
theorem plays_few (w : World) (k : Int) (i t c s : ByteArray) (sd q p al st en ra sh : Int) (a : Option Addr) (cap : Nat) (cz : List Int) (vol : Int) (ad : Option Addr) (n capO : Nat) (hf : few27 i t c s cz.length = false) : Calls Tryz.prog 3 #[.agg #[.int .i64 k, .string i, .string t, .string c, .string s, .int .i64 sd, .int .i64 q, .int .i64 p, .int .i64 al, .int .i64 st, .int .i64 en, .int .i64 ra, .int .i64 sh, .slice a cz.length cap], .int .i64 vol, .slice ad n capO] w fun e w' => e = .returned (.bool true) ∧ Below w.heap.size w w' := by
  have B0 : Hid (Below w.heap.size w (w.alloc (.cells #[.int .i64 k, .string i, .string t, .string c, .string s, .int .i64 sd, .int .i64 q, .int .i64 p, .int .i64 al, .int .i64 st, .int .i64 en, .int .i64 ra, .int .i64 sh, .slice a cz.length cap] 24))) := (Below.refl _ w).alloc (Nat.le_refl _) _
  have X0 : Hid (Box (w.alloc (.cells #[.int .i64 k, .string i, .string t, .string c, .string s, .int .i64 sd, .int .i64 q, .int .i64 p, .int .i64 al, .int .i64 st, .int .i64 en, .int .i64 ra, .int .i64 sh, .slice a cz.length cap] 24)) w.heap.size (oF ⟨k, i, t, c, s, sd, q, p, al, st, en, ra, sh, cz, vol⟩ (.slice a cz.length cap))) := box_new w ⟨k, i, t, c, s, sd, q, p, al, st, en, ra, sh, cz, vol⟩ _ _
  have G1 := awake27_any (w.alloc (.cells #[.int .i64 k, .string i, .string t, .string c, .string s, .int .i64 sd, .int .i64 q, .int .i64 p, .int .i64 al, .int .i64 st, .int .i64 en, .int .i64 ra, .int .i64 sh, .slice a cz.length cap] 24))
  go_enter Tryz.func3, Tryz.ntmps3
  go_wp2_with fail
  refine G1.mono ?_
  rintro e w1 ⟨rfl, b1⟩
  have X1 := X0.out.below b1
  have B1 : Hid (Below w.heap.size w w1) := B0.out.trans (b1.mono B0.out.size)
  have c0 : w1.cell? ⟨w.heap.size, 0, none⟩ = some (.int .i64 k) := X1.cell 0 (by omega)
  have c1 : w1.cell? ⟨w.heap.size, 1, none⟩ = some (.string i) := X1.cell 1 (by omega)
  have c2 : w1.cell? ⟨w.heap.size, 2, none⟩ = some (.string t) := X1.cell 2 (by omega)
  have c3 : w1.cell? ⟨w.heap.size, 3, none⟩ = some (.string c) := X1.cell 3 (by omega)
  have c4 : w1.cell? ⟨w.heap.size, 4, none⟩ = some (.string s) := X1.cell 4 (by omega)
  have c5 : w1.cell? ⟨w.heap.size, 5, none⟩ = some (.int .i64 sd) := X1.cell 5 (by omega)
  have c6 : w1.cell? ⟨w.heap.size, 6, none⟩ = some (.int .i64 q) := X1.cell 6 (by omega)
  have c7 : w1.cell? ⟨w.heap.size, 7, none⟩ = some (.int .i64 p) := X1.cell 7 (by omega)
  have c8 : w1.cell? ⟨w.heap.size, 8, none⟩ = some (.int .i64 al) := X1.cell 8 (by omega)
  have c9 : w1.cell? ⟨w.heap.size, 9, none⟩ = some (.int .i64 st) := X1.cell 9 (by omega)
  have c10 : w1.cell? ⟨w.heap.size, 10, none⟩ = some (.int .i64 en) := X1.cell 10 (by omega)
  have c11 : w1.cell? ⟨w.heap.size, 11, none⟩ = some (.int .i64 ra) := X1.cell 11 (by omega)
  have c12 : w1.cell? ⟨w.heap.size, 12, none⟩ = some (.int .i64 sh) := X1.cell 12 (by omega)
  have c13 : w1.cell? ⟨w.heap.size, 13, none⟩ = some (.slice a cz.length cap) := X1.cell 13 (by omega)
  have G2 := few27_any k i t c s sd q p al st en ra sh a cz.length cap w1
  rw [hf] at G2
  clear X0 B0 G1 b1
  go_wp2_with fail
  refine G2.mono ?_
  rintro e w2 ⟨rfl, b2⟩
  have X2 := X1.below b2
  have B2 : Hid (Below w.heap.size w w2) := B1.out.trans (b2.mono B1.out.size)
  clear c0 c1 c2 c3 c4 c5 c6 c7 c8 c9 c10 c11 c12 c13 X1 B1 G2 b2
  clear X2
  go_wp2_with fail
  go_ret
  exact ⟨rfl, B2.out⟩
set_option maxRecDepth 100000 in
set_option maxHeartbeats 8000000 in
theorem plays_many (w : World) (k : Int) (i t c s : ByteArray) (sd q p al st en ra sh : Int) (a : Option Addr) (cap : Nat) (cz : List Int) (vol : Int) (ad : Option Addr) (n capO : Nat) (hf : few27 i t c s cz.length = true) (hn : 60 < n) : Calls Tryz.prog 3 #[.agg #[.int .i64 k, .string i, .string t, .string c, .string s, .int .i64 sd, .int .i64 q, .int .i64 p, .int .i64 al, .int .i64 st, .int .i64 en, .int .i64 ra, .int .i64 sh, .slice a cz.length cap], .int .i64 vol, .slice ad n capO] w fun e w' => e = .returned (.bool true) ∧ Below w.heap.size w w' := by
  have tn : (60 : Int) < (n : Int) := by omega
  have B0 : Hid (Below w.heap.size w (w.alloc (.cells #[.int .i64 k, .string i, .string t, .string c, .string s, .int .i64 sd, .int .i64 q, .int .i64 p, .int .i64 al, .int .i64 st, .int .i64 en, .int .i64 ra, .int .i64 sh, .slice a cz.length cap] 24))) := (Below.refl _ w).alloc (Nat.le_refl _) _
  have X0 : Hid (Box (w.alloc (.cells #[.int .i64 k, .string i, .string t, .string c, .string s, .int .i64 sd, .int .i64 q, .int .i64 p, .int .i64 al, .int .i64 st, .int .i64 en, .int .i64 ra, .int .i64 sh, .slice a cz.length cap] 24)) w.heap.size (oF ⟨k, i, t, c, s, sd, q, p, al, st, en, ra, sh, cz, vol⟩ (.slice a cz.length cap))) := box_new w ⟨k, i, t, c, s, sd, q, p, al, st, en, ra, sh, cz, vol⟩ _ _
  have G1 := awake27_any (w.alloc (.cells #[.int .i64 k, .string i, .string t, .string c, .string s, .int .i64 sd, .int .i64 q, .int .i64 p, .int .i64 al, .int .i64 st, .int .i64 en, .int .i64 ra, .int .i64 sh, .slice a cz.length cap] 24))
  go_enter Tryz.func3, Tryz.ntmps3
  go_wp2_with fail
  refine G1.mono ?_
  rintro e w1 ⟨rfl, b1⟩
  have X1 := X0.out.below b1
  have B1 : Hid (Below w.heap.size w w1) := B0.out.trans (b1.mono B0.out.size)
  have c0 : w1.cell? ⟨w.heap.size, 0, none⟩ = some (.int .i64 k) := X1.cell 0 (by omega)
  have c1 : w1.cell? ⟨w.heap.size, 1, none⟩ = some (.string i) := X1.cell 1 (by omega)
  have c2 : w1.cell? ⟨w.heap.size, 2, none⟩ = some (.string t) := X1.cell 2 (by omega)
  have c3 : w1.cell? ⟨w.heap.size, 3, none⟩ = some (.string c) := X1.cell 3 (by omega)
  have c4 : w1.cell? ⟨w.heap.size, 4, none⟩ = some (.string s) := X1.cell 4 (by omega)
  have c5 : w1.cell? ⟨w.heap.size, 5, none⟩ = some (.int .i64 sd) := X1.cell 5 (by omega)
  have c6 : w1.cell? ⟨w.heap.size, 6, none⟩ = some (.int .i64 q) := X1.cell 6 (by omega)
  have c7 : w1.cell? ⟨w.heap.size, 7, none⟩ = some (.int .i64 p) := X1.cell 7 (by omega)
  have c8 : w1.cell? ⟨w.heap.size, 8, none⟩ = some (.int .i64 al) := X1.cell 8 (by omega)
  have c9 : w1.cell? ⟨w.heap.size, 9, none⟩ = some (.int .i64 st) := X1.cell 9 (by omega)
  have c10 : w1.cell? ⟨w.heap.size, 10, none⟩ = some (.int .i64 en) := X1.cell 10 (by omega)
  have c11 : w1.cell? ⟨w.heap.size, 11, none⟩ = some (.int .i64 ra) := X1.cell 11 (by omega)
  have c12 : w1.cell? ⟨w.heap.size, 12, none⟩ = some (.int .i64 sh) := X1.cell 12 (by omega)
  have c13 : w1.cell? ⟨w.heap.size, 13, none⟩ = some (.slice a cz.length cap) := X1.cell 13 (by omega)
  have G2 := few27_any k i t c s sd q p al st en ra sh a cz.length cap w1
  rw [hf] at G2
  clear X0 B0 G1 b1
  go_wp2_with fail
  refine G2.mono ?_
  rintro e w2 ⟨rfl, b2⟩
  have X2 := X1.below b2
  have B2 : Hid (Below w.heap.size w w2) := B1.out.trans (b2.mono B1.out.size)
  clear c0 c1 c2 c3 c4 c5 c6 c7 c8 c9 c10 c11 c12 c13 X1 B1 G2 b2
  clear X2
  go_wp2_with fail
  go_ret
  exact ⟨rfl, B2.out⟩
set_option maxRecDepth 100000 in
set_option maxHeartbeats 8000000 in
theorem plays_wrong (w : World) (k : Int) (i t c s : ByteArray) (sd q p al st en ra sh : Int) (a : Option Addr) (cap : Nat) (cz : List Int) (row : Row w (.slice a cz.length cap) cz.length fun i => .int .i64 (cz.getD i 0)) (vol : Int) (ad : Option Addr) (n capO : Nat) (hf : few27 i t c s cz.length = true) (hn : ¬ 60 < n) (hb : newB ⟨k, i, t, c, s, sd, q, p, al, st, en, ra, sh, cz, vol⟩ = false) : Calls Tryz.prog 3 #[.agg #[.int .i64 k, .string i, .string t, .string c, .string s, .int .i64 sd, .int .i64 q, .int .i64 p, .int .i64 al, .int .i64 st, .int .i64 en, .int .i64 ra, .int .i64 sh, .slice a cz.length cap], .int .i64 vol, .slice ad n capO] w fun e w' => e = .returned (.bool true) ∧ Below w.heap.size w w' := by
  have hcz : cz.length ≤ 100 := (few27_of hf).2.2.2.2
  have zi : i.size ≤ 100 := (few27_of hf).1
  have zc : c.size ≤ 100 := (few27_of hf).2.2.1
  have zs : s.size ≤ 100 := (few27_of hf).2.2.2.1
  have tn : ¬ (60 : Int) < (n : Int) := by omega
  have B0 : Hid (Below w.heap.size w (w.alloc (.cells #[.int .i64 k, .string i, .string t, .string c, .string s, .int .i64 sd, .int .i64 q, .int .i64 p, .int .i64 al, .int .i64 st, .int .i64 en, .int .i64 ra, .int .i64 sh, .slice a cz.length cap] 24))) := (Below.refl _ w).alloc (Nat.le_refl _) _
  have X0 : Hid (Box (w.alloc (.cells #[.int .i64 k, .string i, .string t, .string c, .string s, .int .i64 sd, .int .i64 q, .int .i64 p, .int .i64 al, .int .i64 st, .int .i64 en, .int .i64 ra, .int .i64 sh, .slice a cz.length cap] 24)) w.heap.size (oF ⟨k, i, t, c, s, sd, q, p, al, st, en, ra, sh, cz, vol⟩ (.slice a cz.length cap))) := box_new w ⟨k, i, t, c, s, sd, q, p, al, st, en, ra, sh, cz, vol⟩ _ _
  have G1 := awake27_any (w.alloc (.cells #[.int .i64 k, .string i, .string t, .string c, .string s, .int .i64 sd, .int .i64 q, .int .i64 p, .int .i64 al, .int .i64 st, .int .i64 en, .int .i64 ra, .int .i64 sh, .slice a cz.length cap] 24))
  go_enter Tryz.func3, Tryz.ntmps3
  go_wp2_with fail
  refine G1.mono ?_
  rintro e w1 ⟨rfl, b1⟩
  have X1 := X0.out.below b1
  have B1 : Hid (Below w.heap.size w w1) := B0.out.trans (b1.mono B0.out.size)
  have c0 : w1.cell? ⟨w.heap.size, 0, none⟩ = some (.int .i64 k) := X1.cell 0 (by omega)
  have c1 : w1.cell? ⟨w.heap.size, 1, none⟩ = some (.string i) := X1.cell 1 (by omega)
  have c2 : w1.cell? ⟨w.heap.size, 2, none⟩ = some (.string t) := X1.cell 2 (by omega)
  have c3 : w1.cell? ⟨w.heap.size, 3, none⟩ = some (.string c) := X1.cell 3 (by omega)
  have c4 : w1.cell? ⟨w.heap.size, 4, none⟩ = some (.string s) := X1.cell 4 (by omega)
  have c5 : w1.cell? ⟨w.heap.size, 5, none⟩ = some (.int .i64 sd) := X1.cell 5 (by omega)
  have c6 : w1.cell? ⟨w.heap.size, 6, none⟩ = some (.int .i64 q) := X1.cell 6 (by omega)
  have c7 : w1.cell? ⟨w.heap.size, 7, none⟩ = some (.int .i64 p) := X1.cell 7 (by omega)
  have c8 : w1.cell? ⟨w.heap.size, 8, none⟩ = some (.int .i64 al) := X1.cell 8 (by omega)
  have c9 : w1.cell? ⟨w.heap.size, 9, none⟩ = some (.int .i64 st) := X1.cell 9 (by omega)
  have c10 : w1.cell? ⟨w.heap.size, 10, none⟩ = some (.int .i64 en) := X1.cell 10 (by omega)
  have c11 : w1.cell? ⟨w.heap.size, 11, none⟩ = some (.int .i64 ra) := X1.cell 11 (by omega)
  have c12 : w1.cell? ⟨w.heap.size, 12, none⟩ = some (.int .i64 sh) := X1.cell 12 (by omega)
  have c13 : w1.cell? ⟨w.heap.size, 13, none⟩ = some (.slice a cz.length cap) := X1.cell 13 (by omega)
  have G2 := few27_any k i t c s sd q p al st en ra sh a cz.length cap w1
  rw [hf] at G2
  clear X0 B0 G1 b1
  go_wp2_with fail
  refine G2.mono ?_
  rintro e w2 ⟨rfl, b2⟩
  have X2 := X1.below b2
  have B2 : Hid (Below w.heap.size w w2) := B1.out.trans (b2.mono B1.out.size)
  clear c0 c1 c2 c3 c4 c5 c6 c7 c8 c9 c10 c11 c12 c13 X1 B1 G2 b2
  have zB : Hid (w.heap.size < w2.heap.size) := X2.lt
  have c0 : w2.cell? ⟨w.heap.size, 0, none⟩ = some (.int .i64 k) := X2.cell 0 (by omega)
  have c1 : w2.cell? ⟨w.heap.size, 1, none⟩ = some (.string i) := X2.cell 1 (by omega)
  have c2 : w2.cell? ⟨w.heap.size, 2, none⟩ = some (.string t) := X2.cell 2 (by omega)
  have c3 : w2.cell? ⟨w.heap.size, 3, none⟩ = some (.string c) := X2.cell 3 (by omega)
  have c4 : w2.cell? ⟨w.heap.size, 4, none⟩ = some (.string s) := X2.cell 4 (by omega)
  have c5 : w2.cell? ⟨w.heap.size, 5, none⟩ = some (.int .i64 sd) := X2.cell 5 (by omega)
  have c6 : w2.cell? ⟨w.heap.size, 6, none⟩ = some (.int .i64 q) := X2.cell 6 (by omega)
  have c7 : w2.cell? ⟨w.heap.size, 7, none⟩ = some (.int .i64 p) := X2.cell 7 (by omega)
  have c8 : w2.cell? ⟨w.heap.size, 8, none⟩ = some (.int .i64 al) := X2.cell 8 (by omega)
  have c9 : w2.cell? ⟨w.heap.size, 9, none⟩ = some (.int .i64 st) := X2.cell 9 (by omega)
  have c10 : w2.cell? ⟨w.heap.size, 10, none⟩ = some (.int .i64 en) := X2.cell 10 (by omega)
  have c11 : w2.cell? ⟨w.heap.size, 11, none⟩ = some (.int .i64 ra) := X2.cell 11 (by omega)
  have c12 : w2.cell? ⟨w.heap.size, 12, none⟩ = some (.int .i64 sh) := X2.cell 12 (by omega)
  have c13 : w2.cell? ⟨w.heap.size, 13, none⟩ = some (.slice a cz.length cap) := X2.cell 13 (by omega)
  have N1 : Calls Tryz.prog 6 #[.agg #[.int .i64 k, .string i, .string t, .string c, .string s, .int .i64 sd, .int .i64 q, .int .i64 p, .int .i64 al, .int .i64 st, .int .i64 en, .int .i64 ra, .int .i64 sh, .slice a cz.length cap], .int .i64 vol] w2 fun e w' => e = .returned (.tuple #[.pointer none, .int .i64 2]) ∧ Below w2.heap.size w2 w' := new_bad ⟨k, i, t, c, s, sd, q, p, al, st, en, ra, sh, cz, vol⟩ a cap w2 (row.below B2.out) hb
  go_wp2_with fail
  refine N1.mono ?_
  rintro e w3 ⟨rfl, b3⟩
  have X3 := X2.below b3
  have B3 : Hid (Below w.heap.size w w3) := B2.out.trans (b3.mono B2.out.size)
  clear c0 c1 c2 c3 c4 c5 c6 c7 c8 c9 c10 c11 c12 c13 X2 B2 N1 b3
  have c0 : w3.cell? ⟨w.heap.size, 0, none⟩ = some (.int .i64 k) := X3.cell 0 (by omega)
  have c1 : w3.cell? ⟨w.heap.size, 1, none⟩ = some (.string i) := X3.cell 1 (by omega)
  have c2 : w3.cell? ⟨w.heap.size, 2, none⟩ = some (.string t) := X3.cell 2 (by omega)
  have c3 : w3.cell? ⟨w.heap.size, 3, none⟩ = some (.string c) := X3.cell 3 (by omega)
  have c4 : w3.cell? ⟨w.heap.size, 4, none⟩ = some (.string s) := X3.cell 4 (by omega)
  have c5 : w3.cell? ⟨w.heap.size, 5, none⟩ = some (.int .i64 sd) := X3.cell 5 (by omega)
  have c6 : w3.cell? ⟨w.heap.size, 6, none⟩ = some (.int .i64 q) := X3.cell 6 (by omega)
  have c7 : w3.cell? ⟨w.heap.size, 7, none⟩ = some (.int .i64 p) := X3.cell 7 (by omega)
  have c8 : w3.cell? ⟨w.heap.size, 8, none⟩ = some (.int .i64 al) := X3.cell 8 (by omega)
  have c9 : w3.cell? ⟨w.heap.size, 9, none⟩ = some (.int .i64 st) := X3.cell 9 (by omega)
  have c10 : w3.cell? ⟨w.heap.size, 10, none⟩ = some (.int .i64 en) := X3.cell 10 (by omega)
  have c11 : w3.cell? ⟨w.heap.size, 11, none⟩ = some (.int .i64 ra) := X3.cell 11 (by omega)
  have c12 : w3.cell? ⟨w.heap.size, 12, none⟩ = some (.int .i64 sh) := X3.cell 12 (by omega)
  have c13 : w3.cell? ⟨w.heap.size, 13, none⟩ = some (.slice a cz.length cap) := X3.cell 13 (by omega)
  have N2 := plain_any k i t c s sd q p al st en ra sh a cz.length cap w3
  go_wp2_with fail
  refine N2.mono ?_
  rintro e w4 ⟨rfl, b4⟩
  have B4 : Hid (Below w.heap.size w w4) := B3.out.trans (b4.mono B3.out.size)
  clear c0 c1 c2 c3 c4 c5 c6 c7 c8 c9 c10 c11 c12 c13 X3 B3 N2 b4
  have N3 : Calls Tryz.prog 7 #[.agg #[.int .i64 k, .string i, .string t, .string c, .string s, .int .i64 sd, .int .i64 q, .int .i64 p, .int .i64 al, .int .i64 st, .int .i64 en, .int .i64 ra, .int .i64 sh, .slice a cz.length cap], .int .i64 vol] w4 fun e w' => e = .returned (.bool false) ∧ Below w4.heap.size w4 w' := hb ▸ refRight27 ⟨k, i, t, c, s, sd, q, p, al, st, en, ra, sh, cz, vol⟩ a cap w4 (row.below B4.out) (by show cz.length ≤ _; omega) (by show i.size ≤ _; omega) (by show c.size ≤ _; omega) (by show s.size ≤ _; omega)
  go_wp2_with fail
  refine N3.mono ?_
  rintro e w5 ⟨rfl, b5⟩
  go_wp2_with fail
  go_ret
  exact ⟨rfl, B4.out.trans (b5.mono B4.out.size)⟩
set_option maxRecDepth 100000 in
set_option maxHeartbeats 16000000 in
theorem plays_main (w : World) (k : Int) (i t c s : ByteArray) (sd q p al st en ra sh : Int) (a : Option Addr) (cap : Nat) (cz : List Int) (row : Row w (.slice a cz.length cap) cz.length fun i => .int .i64 (cz.getD i 0)) (vol : Int) (ad : Option Addr) (n capO : Nat) (X : Nat → Opc) (ops : Ops w (.slice ad n capO) n X) (hf : few27 i t c s cz.length = true) (hn : ¬ 60 < n) (hb : newB ⟨k, i, t, c, s, sd, q, p, al, st, en, ra, sh, cz, vol⟩ = true) : Calls Tryz.prog 3 #[.agg #[.int .i64 k, .string i, .string t, .string c, .string s, .int .i64 sd, .int .i64 q, .int .i64 p, .int .i64 al, .int .i64 st, .int .i64 en, .int .i64 ra, .int .i64 sh, .slice a cz.length cap], .int .i64 vol, .slice ad n capO] w fun e w' => e = .returned (.bool true) ∧ Below w.heap.size w w' := by
  have hcz : cz.length ≤ 100 := (few27_of hf).2.2.2.2
  have zi : i.size ≤ 100 := (few27_of hf).1
  have zc : c.size ≤ 100 := (few27_of hf).2.2.1
  have zs : s.size ≤ 100 := (few27_of hf).2.2.2.1
  have tn : ¬ (60 : Int) < (n : Int) := by omega
  have B0 : Hid (Below w.heap.size w (w.alloc (.cells #[.int .i64 k, .string i, .string t, .string c, .string s, .int .i64 sd, .int .i64 q, .int .i64 p, .int .i64 al, .int .i64 st, .int .i64 en, .int .i64 ra, .int .i64 sh, .slice a cz.length cap] 24))) := (Below.refl _ w).alloc (Nat.le_refl _) _
  have X0 : Hid (Box (w.alloc (.cells #[.int .i64 k, .string i, .string t, .string c, .string s, .int .i64 sd, .int .i64 q, .int .i64 p, .int .i64 al, .int .i64 st, .int .i64 en, .int .i64 ra, .int .i64 sh, .slice a cz.length cap] 24)) w.heap.size (oF ⟨k, i, t, c, s, sd, q, p, al, st, en, ra, sh, cz, vol⟩ (.slice a cz.length cap))) := box_new w ⟨k, i, t, c, s, sd, q, p, al, st, en, ra, sh, cz, vol⟩ _ _
  have G1 := awake27_any (w.alloc (.cells #[.int .i64 k, .string i, .string t, .string c, .string s, .int .i64 sd, .int .i64 q, .int .i64 p, .int .i64 al, .int .i64 st, .int .i64 en, .int .i64 ra, .int .i64 sh, .slice a cz.length cap] 24))
  go_enter Tryz.func3, Tryz.ntmps3
  go_wp2_with fail
  refine G1.mono ?_
  rintro e w1 ⟨rfl, b1⟩
  have X1 := X0.out.below b1
  have B1 : Hid (Below w.heap.size w w1) := B0.out.trans (b1.mono B0.out.size)
  have c0 : w1.cell? ⟨w.heap.size, 0, none⟩ = some (.int .i64 k) := X1.cell 0 (by omega)
  have c1 : w1.cell? ⟨w.heap.size, 1, none⟩ = some (.string i) := X1.cell 1 (by omega)
  have c2 : w1.cell? ⟨w.heap.size, 2, none⟩ = some (.string t) := X1.cell 2 (by omega)
  have c3 : w1.cell? ⟨w.heap.size, 3, none⟩ = some (.string c) := X1.cell 3 (by omega)
  have c4 : w1.cell? ⟨w.heap.size, 4, none⟩ = some (.string s) := X1.cell 4 (by omega)
  have c5 : w1.cell? ⟨w.heap.size, 5, none⟩ = some (.int .i64 sd) := X1.cell 5 (by omega)
  have c6 : w1.cell? ⟨w.heap.size, 6, none⟩ = some (.int .i64 q) := X1.cell 6 (by omega)
  have c7 : w1.cell? ⟨w.heap.size, 7, none⟩ = some (.int .i64 p) := X1.cell 7 (by omega)
  have c8 : w1.cell? ⟨w.heap.size, 8, none⟩ = some (.int .i64 al) := X1.cell 8 (by omega)
  have c9 : w1.cell? ⟨w.heap.size, 9, none⟩ = some (.int .i64 st) := X1.cell 9 (by omega)
  have c10 : w1.cell? ⟨w.heap.size, 10, none⟩ = some (.int .i64 en) := X1.cell 10 (by omega)
  have c11 : w1.cell? ⟨w.heap.size, 11, none⟩ = some (.int .i64 ra) := X1.cell 11 (by omega)
  have c12 : w1.cell? ⟨w.heap.size, 12, none⟩ = some (.int .i64 sh) := X1.cell 12 (by omega)
  have c13 : w1.cell? ⟨w.heap.size, 13, none⟩ = some (.slice a cz.length cap) := X1.cell 13 (by omega)
  have G2 := few27_any k i t c s sd q p al st en ra sh a cz.length cap w1
  rw [hf] at G2
  clear X0 B0 G1 b1
  go_wp2_with fail
  refine G2.mono ?_
  rintro e w2 ⟨rfl, b2⟩
  have X2 := X1.below b2
  have B2 : Hid (Below w.heap.size w w2) := B1.out.trans (b2.mono B1.out.size)
  clear c0 c1 c2 c3 c4 c5 c6 c7 c8 c9 c10 c11 c12 c13 X1 B1 G2 b2
  have zB : Hid (w.heap.size < w2.heap.size) := X2.lt
  have c0 : w2.cell? ⟨w.heap.size, 0, none⟩ = some (.int .i64 k) := X2.cell 0 (by omega)
  have c1 : w2.cell? ⟨w.heap.size, 1, none⟩ = some (.string i) := X2.cell 1 (by omega)
  have c2 : w2.cell? ⟨w.heap.size, 2, none⟩ = some (.string t) := X2.cell 2 (by omega)
  have c3 : w2.cell? ⟨w.heap.size, 3, none⟩ = some (.string c) := X2.cell 3 (by omega)
  have c4 : w2.cell? ⟨w.heap.size, 4, none⟩ = some (.string s) := X2.cell 4 (by omega)
  have c5 : w2.cell? ⟨w.heap.size, 5, none⟩ = some (.int .i64 sd) := X2.cell 5 (by omega)
  have c6 : w2.cell? ⟨w.heap.size, 6, none⟩ = some (.int .i64 q) := X2.cell 6 (by omega)
  have c7 : w2.cell? ⟨w.heap.size, 7, none⟩ = some (.int .i64 p) := X2.cell 7 (by omega)
  have c8 : w2.cell? ⟨w.heap.size, 8, none⟩ = some (.int .i64 al) := X2.cell 8 (by omega)
  have c9 : w2.cell? ⟨w.heap.size, 9, none⟩ = some (.int .i64 st) := X2.cell 9 (by omega)
  have c10 : w2.cell? ⟨w.heap.size, 10, none⟩ = some (.int .i64 en) := X2.cell 10 (by omega)
  have c11 : w2.cell? ⟨w.heap.size, 11, none⟩ = some (.int .i64 ra) := X2.cell 11 (by omega)
  have c12 : w2.cell? ⟨w.heap.size, 12, none⟩ = some (.int .i64 sh) := X2.cell 12 (by omega)
  have c13 : w2.cell? ⟨w.heap.size, 13, none⟩ = some (.slice a cz.length cap) := X2.cell 13 (by omega)
  have N1 : Calls Tryz.prog 6 #[.agg #[.int .i64 k, .string i, .string t, .string c, .string s, .int .i64 sd, .int .i64 q, .int .i64 p, .int .i64 al, .int .i64 st, .int .i64 en, .int .i64 ra, .int .i64 sh, .slice a cz.length cap], .int .i64 vol] w2 fun e w' => ∃ P v, e = .returned (.tuple #[.pointer (some ⟨P, 0, none⟩), .int .i64 0]) ∧ SlAt w' w2.heap.size P v ⟨k, i, t, c, s, sd, q, p, al, st, en, ra, sh, cz, vol⟩ ∧ Below w2.heap.size w2 w' := new_good ⟨k, i, t, c, s, sd, q, p, al, st, en, ra, sh, cz, vol⟩ a cap w2 (row.below B2.out) hb
  have OP : Hid (Ops w (.slice ad n capO) n X) := ops
  clear ops
  go_wp2_with fail
  refine N1.mono ?_
  rintro e w3 ⟨P, vz, rfl, K3, b3⟩
  have X3 := X2.below b3
  have B3 : Hid (Below w.heap.size w w3) := B2.out.trans (b3.mono B2.out.size)
  clear c0 c1 c2 c3 c4 c5 c6 c7 c8 c9 c10 c11 c12 c13 X2 N1
  have c0 : w3.cell? ⟨w.heap.size, 0, none⟩ = some (.int .i64 k) := X3.cell 0 (by omega)
  have c1 : w3.cell? ⟨w.heap.size, 1, none⟩ = some (.string i) := X3.cell 1 (by omega)
  have c2 : w3.cell? ⟨w.heap.size, 2, none⟩ = some (.string t) := X3.cell 2 (by omega)
  have c3 : w3.cell? ⟨w.heap.size, 3, none⟩ = some (.string c) := X3.cell 3 (by omega)
  have c4 : w3.cell? ⟨w.heap.size, 4, none⟩ = some (.string s) := X3.cell 4 (by omega)
  have c5 : w3.cell? ⟨w.heap.size, 5, none⟩ = some (.int .i64 sd) := X3.cell 5 (by omega)
  have c6 : w3.cell? ⟨w.heap.size, 6, none⟩ = some (.int .i64 q) := X3.cell 6 (by omega)
  have c7 : w3.cell? ⟨w.heap.size, 7, none⟩ = some (.int .i64 p) := X3.cell 7 (by omega)
  have c8 : w3.cell? ⟨w.heap.size, 8, none⟩ = some (.int .i64 al) := X3.cell 8 (by omega)
  have c9 : w3.cell? ⟨w.heap.size, 9, none⟩ = some (.int .i64 st) := X3.cell 9 (by omega)
  have c10 : w3.cell? ⟨w.heap.size, 10, none⟩ = some (.int .i64 en) := X3.cell 10 (by omega)
  have c11 : w3.cell? ⟨w.heap.size, 11, none⟩ = some (.int .i64 ra) := X3.cell 11 (by omega)
  have c12 : w3.cell? ⟨w.heap.size, 12, none⟩ = some (.int .i64 sh) := X3.cell 12 (by omega)
  have c13 : w3.cell? ⟨w.heap.size, 13, none⟩ = some (.slice a cz.length cap) := X3.cell 13 (by omega)
  have N2 := plain_any k i t c s sd q p al st en ra sh a cz.length cap w3
  go_wp2_with fail
  refine N2.mono ?_
  rintro e w4 ⟨rfl, b4⟩
  have X4 := X3.below b4
  have B4 : Hid (Below w.heap.size w w4) := B3.out.trans (b4.mono B3.out.size)
  have K4 := K3.below b4
  clear c0 c1 c2 c3 c4 c5 c6 c7 c8 c9 c10 c11 c12 c13 X3 N2
  have N3 : Calls Tryz.prog 7 #[.agg #[.int .i64 k, .string i, .string t, .string c, .string s, .int .i64 sd, .int .i64 q, .int .i64 p, .int .i64 al, .int .i64 st, .int .i64 en, .int .i64 ra, .int .i64 sh, .slice a cz.length cap], .int .i64 vol] w4 fun e w' => e = .returned (.bool true) ∧ Below w4.heap.size w4 w' := hb ▸ refRight27 ⟨k, i, t, c, s, sd, q, p, al, st, en, ra, sh, cz, vol⟩ a cap w4 (row.below B4.out) (by show cz.length ≤ _; omega) (by show i.size ≤ _; omega) (by show c.size ≤ _; omega) (by show s.size ≤ _; omega)
  go_wp2_with fail
  refine N3.mono ?_
  rintro e w5 ⟨rfl, b5⟩
  have X5 := X4.below b5
  have B5 : Hid (Below w.heap.size w w5) := B4.out.trans (b5.mono B4.out.size)
  have K5 := K4.below b5
  clear X4 N3
  have c0 : w5.cell? ⟨w.heap.size, 0, none⟩ = some (.int .i64 k) := X5.cell 0 (by omega)
  have c1 : w5.cell? ⟨w.heap.size, 1, none⟩ = some (.string i) := X5.cell 1 (by omega)
  have c2 : w5.cell? ⟨w.heap.size, 2, none⟩ = some (.string t) := X5.cell 2 (by omega)
  have c3 : w5.cell? ⟨w.heap.size, 3, none⟩ = some (.string c) := X5.cell 3 (by omega)
  have c4 : w5.cell? ⟨w.heap.size, 4, none⟩ = some (.string s) := X5.cell 4 (by omega)
  have c5 : w5.cell? ⟨w.heap.size, 5, none⟩ = some (.int .i64 sd) := X5.cell 5 (by omega)
  have c6 : w5.cell? ⟨w.heap.size, 6, none⟩ = some (.int .i64 q) := X5.cell 6 (by omega)
  have c7 : w5.cell? ⟨w.heap.size, 7, none⟩ = some (.int .i64 p) := X5.cell 7 (by omega)
  have c8 : w5.cell? ⟨w.heap.size, 8, none⟩ = some (.int .i64 al) := X5.cell 8 (by omega)
  have c9 : w5.cell? ⟨w.heap.size, 9, none⟩ = some (.int .i64 st) := X5.cell 9 (by omega)
  have c10 : w5.cell? ⟨w.heap.size, 10, none⟩ = some (.int .i64 en) := X5.cell 10 (by omega)
  have c11 : w5.cell? ⟨w.heap.size, 11, none⟩ = some (.int .i64 ra) := X5.cell 11 (by omega)
  have c12 : w5.cell? ⟨w.heap.size, 12, none⟩ = some (.int .i64 sh) := X5.cell 12 (by omega)
  have c13 : w5.cell? ⟨w.heap.size, 13, none⟩ = some (.slice a cz.length cap) := X5.cell 13 (by omega)
  have N4 := plain_any k i t c s sd q p al st en ra sh a cz.length cap w5
  go_wp2_with fail
  refine N4.mono ?_
  rintro e w6 ⟨rfl, b6⟩
  have B6 : Hid (Below w.heap.size w w6) := B5.out.trans (b6.mono B5.out.size)
  have K6 := K5.below b6
  have I0 : Hid (Duo w (w6.alloc (.cells #[.int .i64 k, .string i, .string t, .string c, .string s, .int .i64 sd, .int .i64 q, .int .i64 p, .int .i64 al, .int .i64 st, .int .i64 en, .int .i64 ra, .int .i64 sh, .slice a cz.length cap, .int .i64 vol] 37)) w2.heap.size P w6.heap.size vz (.slice a cz.length cap) cz ⟨k, i, t, c, s, sd, q, p, al, st, en, ra, sh, cz, vol⟩) := by
    have k := (Below.refl w6.heap.size w6).alloc (Nat.le_refl _) (.cells #[.int .i64 k, .string i, .string t, .string c, .string s, .int .i64 sd, .int .i64 q, .int .i64 p, .int .i64 al, .int .i64 st, .int .i64 en, .int .i64 ra, .int .i64 sh, .slice a cz.length cap, .int .i64 vol] 37)
    refine ⟨B2.out.size, K6.below k, ⟨B6.out.trans (k.mono B6.out.size), B6.out.size, fun j hj => ?_, by simp, fun j => by simp, row, K6.good⟩, K6.pt, fun a g hg => (own_base (K6.own a) hg).2, rfl⟩
    rcases (show j = 0 ∨ j = 1 ∨ j = 2 ∨ j = 3 ∨ j = 4 ∨ j = 5 ∨ j = 6 ∨ j = 7 ∨ j = 8 ∨ j = 9 ∨ j = 10 ∨ j = 11 ∨ j = 12 ∨ j = 13 by omega) with rfl | rfl | rfl | rfl | rfl | rfl | rfl | rfl | rfl | rfl | rfl | rfl | rfl | rfl <;> simp [oF]
  clear c0 c1 c2 c3 c4 c5 c6 c7 c8 c9 c10 c11 c12 c13 X5 N4 K3 K4 K5 K6 b3 b4 b5 b6 B2 B3 B4 B5 hb hf
  go_upto_region 11 with fail
  generalize w6.alloc (.cells #[.int .i64 k, .string i, .string t, .string c, .string s, .int .i64 sd, .int .i64 q, .int .i64 p, .int .i64 al, .int .i64 st, .int .i64 en, .int .i64 ra, .int .i64 sh, .slice a cz.length cap, .int .i64 vol] 37) = w7 at *
  generalize w6.heap.size = R at *
  generalize w2.heap.size = B at *
  clear B6 zB
  go_wp2_with fail
  go_loopw [60] (fun lc wr => ∃ (j : Nat) (x : Sl), lc = .int .i64 (j : Int) ∧ j ≤ n ∧ Hid (Duo w wr B P R vz (.slice a cz.length cap) cz x)) (fun lc _ => n - (RowKit.intOf lc).toNat)
  case atStart => exact ⟨0, _, rfl, Nat.zero_le _, I0.out⟩
  case round =>
    clear I0
    obtain ⟨j, x, rfl, hj, I⟩ := hrel
    by_cases hlt : j < n
    · have d0 : (j : Int) < (n : Int) := by omega
      obtain ⟨a2, cap2, b, off, e0, e1, y0, y1, y2, y3, y4, yf⟩ := ops_row OP.out I.out.rf.bel hlt
      injection e0 with e2 _ e3
      subst e2 e3 e1
      have l4 : (X j).d ≤ 9223372036854775807 := yf.2
      obtain ⟨ok, hk⟩ : ∃ u, (X j).k = u := ⟨_, rfl⟩
      rw [hk] at y0
      obtain ⟨oa, ha⟩ : ∃ u, (X j).a = u := ⟨_, rfl⟩
      rw [ha] at y1
      obtain ⟨ob, hb⟩ : ∃ u, (X j).b = u := ⟨_, rfl⟩
      rw [hb] at y2
      obtain ⟨oc, hc⟩ : ∃ u, (X j).c = u := ⟨_, rfl⟩
      rw [hc] at y3
      obtain ⟨od, hd⟩ : ∃ u, (X j).d = u := ⟨_, rfl⟩
      rw [hd] at y4 l4
      clear hk ha hb hc hd yf
      go_upto_region 14 with fail
      have I2 : Hid (Duo w (wr.alloc (.cells #[.int .i64 ok, .int .i64 oa, .int .i64 ob, .int .i64 oc, .int .i64 od] 39)) B P R vz (.slice a cz.length cap) cz x) := I.out.below ((Below.refl _ _).alloc (Nat.le_refl _) _)
      have c0 : (wr.alloc (.cells #[.int .i64 ok, .int .i64 oa, .int .i64 ob, .int .i64 oc, .int .i64 od] 39)).cell? ⟨wr.heap.size, 0, none⟩ = some (.int .i64 ok) := by go_simp
      have d1 : (wr.alloc (.cells #[.int .i64 ok, .int .i64 oa, .int .i64 ob, .int .i64 oc, .int .i64 od] 39)).cell? ⟨wr.heap.size, 1, none⟩ = some (.int .i64 oa) := by go_simp
      have d2 : (wr.alloc (.cells #[.int .i64 ok, .int .i64 oa, .int .i64 ob, .int .i64 oc, .int .i64 od] 39)).cell? ⟨wr.heap.size, 2, none⟩ = some (.int .i64 ob) := by go_simp
      have d3 : (wr.alloc (.cells #[.int .i64 ok, .int .i64 oa, .int .i64 ob, .int .i64 oc, .int .i64 od] 39)).cell? ⟨wr.heap.size, 3, none⟩ = some (.int .i64 oc) := by go_simp
      have d4 : (wr.alloc (.cells #[.int .i64 ok, .int .i64 oa, .int .i64 ob, .int .i64 oc, .int .i64 od] 39)).cell? ⟨wr.heap.size, 4, none⟩ = some (.int .i64 od) := by go_simp
      have nP : ¬ (wr.heap.size = P) := by have := I.out.sl.pt; omega
      have nR : ¬ (wr.heap.size = R) := by have := I.out.rf.pt; omega
      have lx : wr.heap.size < (wr.alloc (.cells #[.int .i64 ok, .int .i64 oa, .int .i64 ob, .int .i64 oc, .int .i64 od] 39)).heap.size := by simp
      generalize wr.alloc (.cells #[.int .i64 ok, .int .i64 oa, .int .i64 ob, .int .i64 oc, .int .i64 od] 39) = wB at *
      obtain ⟨gx, hgx⟩ : ∃ g, g = wr.heap.size := ⟨_, rfl⟩
      rw [← hgx] at c0 d1 d2 d3 d4 nP nR lx
      rw [← hgx]
      clear hgx y0 y1 y2 y3 y4 I
      cases hk : (ok == 1)
      · have hk' : ¬ ok = 1 := by simpa using hk
        clear nP nR lx
        go_wp2_with fail
        refine (target_yes I2.out.sl oa ob oc).mono ?_
        rintro e w8 ⟨rfl, k3⟩
        have I3 : Hid (Duo w w8 B P R vz (.slice a cz.length cap) cz x) := I2.out.below k3
        have e1 := (k3.cell (p := ⟨gx, 1, none⟩) (World.block_lt_of_cell? _ _ d1)).trans d1
        have e2 := (k3.cell (p := ⟨gx, 2, none⟩) (World.block_lt_of_cell? _ _ d2)).trans d2
        have e3 := (k3.cell (p := ⟨gx, 3, none⟩) (World.block_lt_of_cell? _ _ d3)).trans d3
        have e4 := (k3.cell (p := ⟨gx, 4, none⟩) (World.block_lt_of_cell? _ _ d4)).trans d4
        clear I2 k3 d1 d2 d3 d4
        go_wp2_with fail
        refine (refTarget I3.out.rf oa ob oc).mono ?_
        rintro e w9 ⟨rfl, k4⟩
        have I4 : Hid (Duo w w9 B P R vz (.slice a cz.length cap) cz x) := I3.out.below k4
        have d1 := (k4.cell (p := ⟨gx, 1, none⟩) (World.block_lt_of_cell? _ _ e1)).trans e1
        have d2 := (k4.cell (p := ⟨gx, 2, none⟩) (World.block_lt_of_cell? _ _ e2)).trans e2
        have d3 := (k4.cell (p := ⟨gx, 3, none⟩) (World.block_lt_of_cell? _ _ e3)).trans e3
        have d4 := (k4.cell (p := ⟨gx, 4, none⟩) (World.block_lt_of_cell? _ _ e4)).trans e4
        clear I3 k4 e1 e2 e3 e4
        go_wp2_with fail
        refine (goal_yes I4.out.sl oa ob oc od l4).mono ?_
        rintro e w10 ⟨rfl, k5⟩
        have I5 : Hid (Duo w w10 B P R vz (.slice a cz.length cap) cz x) := I4.out.below k5
        have e1 := (k5.cell (p := ⟨gx, 1, none⟩) (World.block_lt_of_cell? _ _ d1)).trans d1
        have e2 := (k5.cell (p := ⟨gx, 2, none⟩) (World.block_lt_of_cell? _ _ d2)).trans d2
        have e3 := (k5.cell (p := ⟨gx, 3, none⟩) (World.block_lt_of_cell? _ _ d3)).trans d3
        have e4 := (k5.cell (p := ⟨gx, 4, none⟩) (World.block_lt_of_cell? _ _ d4)).trans d4
        clear I4 k5 d1 d2 d3 d4
        go_wp2_with fail
        refine (refGoal I5.out.rf oa ob oc od l4).mono ?_
        rintro e w11 ⟨rfl, k6⟩
        have I6 : Hid (Duo w w11 B P R vz (.slice a cz.length cap) cz x) := I5.out.below k6
        have d1 := (k6.cell (p := ⟨gx, 1, none⟩) (World.block_lt_of_cell? _ _ e1)).trans e1
        have d2 := (k6.cell (p := ⟨gx, 2, none⟩) (World.block_lt_of_cell? _ _ e2)).trans e2
        have d3 := (k6.cell (p := ⟨gx, 3, none⟩) (World.block_lt_of_cell? _ _ e3)).trans e3
        have d4 := (k6.cell (p := ⟨gx, 4, none⟩) (World.block_lt_of_cell? _ _ e4)).trans e4
        clear I5 k6 e1 e2 e3 e4
        go_wp2_with fail
        have hz := I6.out.z
        subst hz
        have c0 : w11.cell? ⟨R, 0, none⟩ = some (.int .i64 x.k) := I6.out.rf.cell 0 (by omega)
        have c1 : w11.cell? ⟨R, 1, none⟩ = some (.string x.i) := I6.out.rf.cell 1 (by omega)
        have c2 : w11.cell? ⟨R, 2, none⟩ = some (.string x.t) := I6.out.rf.cell 2 (by omega)
        have c3 : w11.cell? ⟨R, 3, none⟩ = some (.string x.c) := I6.out.rf.cell 3 (by omega)
        have c4 : w11.cell? ⟨R, 4, none⟩ = some (.string x.s) := I6.out.rf.cell 4 (by omega)
        have c5 : w11.cell? ⟨R, 5, none⟩ = some (.int .i64 x.sd) := I6.out.rf.cell 5 (by omega)
        have c6 : w11.cell? ⟨R, 6, none⟩ = some (.int .i64 x.q) := I6.out.rf.cell 6 (by omega)
        have c7 : w11.cell? ⟨R, 7, none⟩ = some (.int .i64 x.p) := I6.out.rf.cell 7 (by omega)
        have c8 : w11.cell? ⟨R, 8, none⟩ = some (.int .i64 x.al) := I6.out.rf.cell 8 (by omega)
        have c9 : w11.cell? ⟨R, 9, none⟩ = some (.int .i64 x.st) := I6.out.rf.cell 9 (by omega)
        have c10 : w11.cell? ⟨R, 10, none⟩ = some (.int .i64 x.en) := I6.out.rf.cell 10 (by omega)
        have c11 : w11.cell? ⟨R, 11, none⟩ = some (.int .i64 x.ra) := I6.out.rf.cell 11 (by omega)
        have c12 : w11.cell? ⟨R, 12, none⟩ = some (.int .i64 x.sh) := I6.out.rf.cell 12 (by omega)
        have c13 : w11.cell? ⟨R, 13, none⟩ = some (.slice a x.z.length cap) := I6.out.rf.cell 13 (by omega)
        have F5 := ask_yes (w := w11.drew) (I6.out.sl.below (below_drewN _ 1 w11))
        have F6 := fun a5 c5 w => plain_any x.k x.i x.t x.c x.s x.sd x.q x.p x.al x.st x.en x.ra x.sh a5 x.z.length c5 w
        have F7 := fun a5 c5 w r1 r2 => same_yes12 x.k x.i x.t x.c x.s x.sd x.q x.p x.al x.st x.en x.ra x.sh a5 x.z.length c5 a cap (fun i => x.z.getD i 0) w (by omega) r1 r2
        go_region_held3 (fun w' => w'.cell? ⟨R, 0, none⟩ = some (.int .i64 x.k) ∧ w'.cell? ⟨R, 1, none⟩ = some (.string x.i) ∧ w'.cell? ⟨R, 2, none⟩ = some (.string x.t) ∧ w'.cell? ⟨R, 3, none⟩ = some (.string x.c) ∧ w'.cell? ⟨R, 4, none⟩ = some (.string x.s) ∧ w'.cell? ⟨R, 5, none⟩ = some (.int .i64 x.sd) ∧ w'.cell? ⟨R, 6, none⟩ = some (.int .i64 x.q) ∧ w'.cell? ⟨R, 7, none⟩ = some (.int .i64 x.p) ∧ w'.cell? ⟨R, 8, none⟩ = some (.int .i64 x.al) ∧ w'.cell? ⟨R, 9, none⟩ = some (.int .i64 x.st) ∧ w'.cell? ⟨R, 10, none⟩ = some (.int .i64 x.en) ∧ w'.cell? ⟨R, 11, none⟩ = some (.int .i64 x.ra) ∧ w'.cell? ⟨R, 12, none⟩ = some (.int .i64 x.sh) ∧ w'.cell? ⟨R, 13, none⟩ = some (.slice a x.z.length cap) ∧ w'.cell? ⟨gx, 1, none⟩ = some (.int .i64 oa)) (go_keep) (first
          | (go_at_call 16; refine F5.mono ?_; rintro e wA ⟨a5, c5, rfl, o5, k5⟩; have b5 : Below w11.heap.size w11 wA := below_of_drew k5; have IA := I6.out.below b5; have e0 : wA.cell? ⟨R, 0, none⟩ = some (.int .i64 x.k) := IA.rf.cell 0 (by decide); have e1 : wA.cell? ⟨R, 1, none⟩ = some (.string x.i) := IA.rf.cell 1 (by decide); have e2 : wA.cell? ⟨R, 2, none⟩ = some (.string x.t) := IA.rf.cell 2 (by decide); have e3 : wA.cell? ⟨R, 3, none⟩ = some (.string x.c) := IA.rf.cell 3 (by decide); have e4 : wA.cell? ⟨R, 4, none⟩ = some (.string x.s) := IA.rf.cell 4 (by decide); have e5 : wA.cell? ⟨R, 5, none⟩ = some (.int .i64 x.sd) := IA.rf.cell 5 (by decide); have e6 : wA.cell? ⟨R, 6, none⟩ = some (.int .i64 x.q) := IA.rf.cell 6 (by decide); have e7 : wA.cell? ⟨R, 7, none⟩ = some (.int .i64 x.p) := IA.rf.cell 7 (by decide); have e8 : wA.cell? ⟨R, 8, none⟩ = some (.int .i64 x.al) := IA.rf.cell 8 (by decide); have e9 : wA.cell? ⟨R, 9, none⟩ = some (.int .i64 x.st) := IA.rf.cell 9 (by decide); have e10 : wA.cell? ⟨R, 10, none⟩ = some (.int .i64 x.en) := IA.rf.cell 10 (by decide); have e11 : wA.cell? ⟨R, 11, none⟩ = some (.int .i64 x.ra) := IA.rf.cell 11 (by decide); have e12 : wA.cell? ⟨R, 12, none⟩ = some (.int .i64 x.sh) := IA.rf.cell 12 (by decide); have e13 : wA.cell? ⟨R, 13, none⟩ = some (.slice a x.z.length cap) := IA.rf.cell 13 (by decide); have ex := (b5.cell (p := ⟨gx, 1, none⟩) (World.block_lt_of_cell? _ _ d1)).trans d1)
          | (go_at_call 8; refine (F6 _ _ _).mono ?_; rintro e wC ⟨rfl, k6⟩; have IC := IA.below k6; have r1 := row_of_ownZ (own_kept o5 (But.of_below (S := fun _ => False) k6) (fun _ _ => id)); have r2 := IC.rf.now; have m0 : wC.cell? ⟨R, 0, none⟩ = some (.int .i64 x.k) := IC.rf.cell 0 (by decide); have m1 : wC.cell? ⟨R, 1, none⟩ = some (.string x.i) := IC.rf.cell 1 (by decide); have m2 : wC.cell? ⟨R, 2, none⟩ = some (.string x.t) := IC.rf.cell 2 (by decide); have m3 : wC.cell? ⟨R, 3, none⟩ = some (.string x.c) := IC.rf.cell 3 (by decide); have m4 : wC.cell? ⟨R, 4, none⟩ = some (.string x.s) := IC.rf.cell 4 (by decide); have m5 : wC.cell? ⟨R, 5, none⟩ = some (.int .i64 x.sd) := IC.rf.cell 5 (by decide); have m6 : wC.cell? ⟨R, 6, none⟩ = some (.int .i64 x.q) := IC.rf.cell 6 (by decide); have m7 : wC.cell? ⟨R, 7, none⟩ = some (.int .i64 x.p) := IC.rf.cell 7 (by decide); have m8 : wC.cell? ⟨R, 8, none⟩ = some (.int .i64 x.al) := IC.rf.cell 8 (by decide); have m9 : wC.cell? ⟨R, 9, none⟩ = some (.int .i64 x.st) := IC.rf.cell 9 (by decide); have m10 : wC.cell? ⟨R, 10, none⟩ = some (.int .i64 x.en) := IC.rf.cell 10 (by decide); have m11 : wC.cell? ⟨R, 11, none⟩ = some (.int .i64 x.ra) := IC.rf.cell 11 (by decide); have m12 : wC.cell? ⟨R, 12, none⟩ = some (.int .i64 x.sh) := IC.rf.cell 12 (by decide); have m13 : wC.cell? ⟨R, 13, none⟩ = some (.slice a x.z.length cap) := IC.rf.cell 13 (by decide); have mx := (k6.cell (p := ⟨gx, 1, none⟩) (World.block_lt_of_cell? _ _ ex)).trans ex)
          | (go_at_call 15; refine (F7 _ _ _ r1 r2).mono ?_; rintro e wD ⟨rfl, k7⟩; have ID := IC.below k7; have n0 : wD.cell? ⟨R, 0, none⟩ = some (.int .i64 x.k) := ID.rf.cell 0 (by decide); have n1 : wD.cell? ⟨R, 1, none⟩ = some (.string x.i) := ID.rf.cell 1 (by decide); have n2 : wD.cell? ⟨R, 2, none⟩ = some (.string x.t) := ID.rf.cell 2 (by decide); have n3 : wD.cell? ⟨R, 3, none⟩ = some (.string x.c) := ID.rf.cell 3 (by decide); have n4 : wD.cell? ⟨R, 4, none⟩ = some (.string x.s) := ID.rf.cell 4 (by decide); have n5 : wD.cell? ⟨R, 5, none⟩ = some (.int .i64 x.sd) := ID.rf.cell 5 (by decide); have n6 : wD.cell? ⟨R, 6, none⟩ = some (.int .i64 x.q) := ID.rf.cell 6 (by decide); have n7 : wD.cell? ⟨R, 7, none⟩ = some (.int .i64 x.p) := ID.rf.cell 7 (by decide); have n8 : wD.cell? ⟨R, 8, none⟩ = some (.int .i64 x.al) := ID.rf.cell 8 (by decide); have n9 : wD.cell? ⟨R, 9, none⟩ = some (.int .i64 x.st) := ID.rf.cell 9 (by decide); have n10 : wD.cell? ⟨R, 10, none⟩ = some (.int .i64 x.en) := ID.rf.cell 10 (by decide); have n11 : wD.cell? ⟨R, 11, none⟩ = some (.int .i64 x.ra) := ID.rf.cell 11 (by decide); have n12 : wD.cell? ⟨R, 12, none⟩ = some (.int .i64 x.sh) := ID.rf.cell 12 (by decide); have n13 : wD.cell? ⟨R, 13, none⟩ = some (.slice a x.z.length cap) := ID.rf.cell 13 (by decide); have nx := (k7.cell (p := ⟨gx, 1, none⟩) (World.block_lt_of_cell? _ _ mx)).trans mx)
          | (go_at_call 17; refine (over_yes ID.sl oa).mono ?_; rintro e wE ⟨rfl, rfl⟩))
        have IE : Hid (Duo w wD B P R vz (.slice a x.z.length cap) x.z x) := ID
        clear I6 IA IC ID F5 F6 F7 r1 r2 o5 k5 k6 k7 b5
        go_wp2_with fail
        go_roundw
        case rel => exact ⟨j + 1, x, by simp, by omega, IE.out⟩
        case measure => simp [RowKit.intOf]; omega
      · have hk' : ok = 1 := by simpa using hk
        subst hk'
        clear hk
        have J2 : Duo w wB.drew B P R vz (.slice a cz.length cap) cz x := I2.out.below (below_drewN _ 1 wB)
        have G1 := amend_yes (w := wB.drew) J2.sl oa ob oc
        have G2 := fun w5 (k : But (fun i => i = P) wB.drew w5) => refAmend (J2.mid k) oa ob oc
        obtain ⟨E, hE⟩ : ∃ E, amE x oa ob oc = E := ⟨_, rfl⟩
        rw [hE] at G1 G2
        clear hE
        have lx' : gx < wB.drew.heap.size := lx
        go_wp2_with fail
        go_region_held3 (fun w' => w'.cell? ⟨gx, 1, none⟩ = some (.int .i64 oa) ∧ w'.cell? ⟨gx, 2, none⟩ = some (.int .i64 ob) ∧ w'.cell? ⟨gx, 3, none⟩ = some (.int .i64 oc)) (go_keep) (first
          | (go_at_call 9; refine G1.mono ?_; rintro e w5 ⟨rfl, K5, k5⟩; have f51 := (k5.cell (k := gx) (o := 1) lx' nP).trans d1; have f52 := (k5.cell (k := gx) (o := 2) lx' nP).trans d2; have f53 := (k5.cell (k := gx) (o := 3) lx' nP).trans d3)
          | (go_at_call 10; refine (G2 _ k5).mono ?_; rintro e w6 ⟨rfl, K6, k6⟩; have f61 := (k6.cell (k := gx) (o := 1) (Nat.lt_of_lt_of_le lx' k5.size) nR).trans f51; have f62 := (k6.cell (k := gx) (o := 2) (Nat.lt_of_lt_of_le lx' k5.size) nR).trans f52; have f63 := (k6.cell (k := gx) (o := 3) (Nat.lt_of_lt_of_le lx' k5.size) nR).trans f53))
        have I6 : Hid (Duo w w6 B P R vz (.slice a cz.length cap) cz (amX x oa ob oc)) := J2.amended K5 K6 k6
        clear G1 G2 K5 k5 K6 k6 I2 J2 c0 d1 d2 d3 d4 f51 f52 f53 f62 f63 nP nR lx lx'
        generalize amX x oa ob oc = x at *
        have d1 := f61
        clear f61
        go_wp2_with fail
        have hz := I6.out.z
        subst hz
        have c0 : w6.cell? ⟨R, 0, none⟩ = some (.int .i64 x.k) := I6.out.rf.cell 0 (by omega)
        have c1 : w6.cell? ⟨R, 1, none⟩ = some (.string x.i) := I6.out.rf.cell 1 (by omega)
        have c2 : w6.cell? ⟨R, 2, none⟩ = some (.string x.t) := I6.out.rf.cell 2 (by omega)
        have c3 : w6.cell? ⟨R, 3, none⟩ = some (.string x.c) := I6.out.rf.cell 3 (by omega)
        have c4 : w6.cell? ⟨R, 4, none⟩ = some (.string x.s) := I6.out.rf.cell 4 (by omega)
        have c5 : w6.cell? ⟨R, 5, none⟩ = some (.int .i64 x.sd) := I6.out.rf.cell 5 (by omega)
        have c6 : w6.cell? ⟨R, 6, none⟩ = some (.int .i64 x.q) := I6.out.rf.cell 6 (by omega)
        have c7 : w6.cell? ⟨R, 7, none⟩ = some (.int .i64 x.p) := I6.out.rf.cell 7 (by omega)
        have c8 : w6.cell? ⟨R, 8, none⟩ = some (.int .i64 x.al) := I6.out.rf.cell 8 (by omega)
        have c9 : w6.cell? ⟨R, 9, none⟩ = some (.int .i64 x.st) := I6.out.rf.cell 9 (by omega)
        have c10 : w6.cell? ⟨R, 10, none⟩ = some (.int .i64 x.en) := I6.out.rf.cell 10 (by omega)
        have c11 : w6.cell? ⟨R, 11, none⟩ = some (.int .i64 x.ra) := I6.out.rf.cell 11 (by omega)
        have c12 : w6.cell? ⟨R, 12, none⟩ = some (.int .i64 x.sh) := I6.out.rf.cell 12 (by omega)
        have c13 : w6.cell? ⟨R, 13, none⟩ = some (.slice a x.z.length cap) := I6.out.rf.cell 13 (by omega)
        have F5 := ask_yes (w := w6.drew) (I6.out.sl.below (below_drewN _ 1 w6))
        have F6 := fun a5 c5 w => plain_any x.k x.i x.t x.c x.s x.sd x.q x.p x.al x.st x.en x.ra x.sh a5 x.z.length c5 w
        have F7 := fun a5 c5 w r1 r2 => same_yes12 x.k x.i x.t x.c x.s x.sd x.q x.p x.al x.st x.en x.ra x.sh a5 x.z.length c5 a cap (fun i => x.z.getD i 0) w (by omega) r1 r2
        go_region_held3 (fun w' => w'.cell? ⟨R, 0, none⟩ = some (.int .i64 x.k) ∧ w'.cell? ⟨R, 1, none⟩ = some (.string x.i) ∧ w'.cell? ⟨R, 2, none⟩ = some (.string x.t) ∧ w'.cell? ⟨R, 3, none⟩ = some (.string x.c) ∧ w'.cell? ⟨R, 4, none⟩ = some (.string x.s) ∧ w'.cell? ⟨R, 5, none⟩ = some (.int .i64 x.sd) ∧ w'.cell? ⟨R, 6, none⟩ = some (.int .i64 x.q) ∧ w'.cell? ⟨R, 7, none⟩ = some (.int .i64 x.p) ∧ w'.cell? ⟨R, 8, none⟩ = some (.int .i64 x.al) ∧ w'.cell? ⟨R, 9, none⟩ = some (.int .i64 x.st) ∧ w'.cell? ⟨R, 10, none⟩ = some (.int .i64 x.en) ∧ w'.cell? ⟨R, 11, none⟩ = some (.int .i64 x.ra) ∧ w'.cell? ⟨R, 12, none⟩ = some (.int .i64 x.sh) ∧ w'.cell? ⟨R, 13, none⟩ = some (.slice a x.z.length cap) ∧ w'.cell? ⟨gx, 1, none⟩ = some (.int .i64 oa)) (go_keep) (first
          | (go_at_call 16; refine F5.mono ?_; rintro e wA ⟨a5, c5, rfl, o5, k5⟩; have b5 : Below w6.heap.size w6 wA := below_of_drew k5; have IA := I6.out.below b5; have e0 : wA.cell? ⟨R, 0, none⟩ = some (.int .i64 x.k) := IA.rf.cell 0 (by decide); have e1 : wA.cell? ⟨R, 1, none⟩ = some (.string x.i) := IA.rf.cell 1 (by decide); have e2 : wA.cell? ⟨R, 2, none⟩ = some (.string x.t) := IA.rf.cell 2 (by decide); have e3 : wA.cell? ⟨R, 3, none⟩ = some (.string x.c) := IA.rf.cell 3 (by decide); have e4 : wA.cell? ⟨R, 4, none⟩ = some (.string x.s) := IA.rf.cell 4 (by decide); have e5 : wA.cell? ⟨R, 5, none⟩ = some (.int .i64 x.sd) := IA.rf.cell 5 (by decide); have e6 : wA.cell? ⟨R, 6, none⟩ = some (.int .i64 x.q) := IA.rf.cell 6 (by decide); have e7 : wA.cell? ⟨R, 7, none⟩ = some (.int .i64 x.p) := IA.rf.cell 7 (by decide); have e8 : wA.cell? ⟨R, 8, none⟩ = some (.int .i64 x.al) := IA.rf.cell 8 (by decide); have e9 : wA.cell? ⟨R, 9, none⟩ = some (.int .i64 x.st) := IA.rf.cell 9 (by decide); have e10 : wA.cell? ⟨R, 10, none⟩ = some (.int .i64 x.en) := IA.rf.cell 10 (by decide); have e11 : wA.cell? ⟨R, 11, none⟩ = some (.int .i64 x.ra) := IA.rf.cell 11 (by decide); have e12 : wA.cell? ⟨R, 12, none⟩ = some (.int .i64 x.sh) := IA.rf.cell 12 (by decide); have e13 : wA.cell? ⟨R, 13, none⟩ = some (.slice a x.z.length cap) := IA.rf.cell 13 (by decide); have ex := (b5.cell (p := ⟨gx, 1, none⟩) (World.block_lt_of_cell? _ _ d1)).trans d1)
          | (go_at_call 8; refine (F6 _ _ _).mono ?_; rintro e wC ⟨rfl, k6⟩; have IC := IA.below k6; have r1 := row_of_ownZ (own_kept o5 (But.of_below (S := fun _ => False) k6) (fun _ _ => id)); have r2 := IC.rf.now; have m0 : wC.cell? ⟨R, 0, none⟩ = some (.int .i64 x.k) := IC.rf.cell 0 (by decide); have m1 : wC.cell? ⟨R, 1, none⟩ = some (.string x.i) := IC.rf.cell 1 (by decide); have m2 : wC.cell? ⟨R, 2, none⟩ = some (.string x.t) := IC.rf.cell 2 (by decide); have m3 : wC.cell? ⟨R, 3, none⟩ = some (.string x.c) := IC.rf.cell 3 (by decide); have m4 : wC.cell? ⟨R, 4, none⟩ = some (.string x.s) := IC.rf.cell 4 (by decide); have m5 : wC.cell? ⟨R, 5, none⟩ = some (.int .i64 x.sd) := IC.rf.cell 5 (by decide); have m6 : wC.cell? ⟨R, 6, none⟩ = some (.int .i64 x.q) := IC.rf.cell 6 (by decide); have m7 : wC.cell? ⟨R, 7, none⟩ = some (.int .i64 x.p) := IC.rf.cell 7 (by decide); have m8 : wC.cell? ⟨R, 8, none⟩ = some (.int .i64 x.al) := IC.rf.cell 8 (by decide); have m9 : wC.cell? ⟨R, 9, none⟩ = some (.int .i64 x.st) := IC.rf.cell 9 (by decide); have m10 : wC.cell? ⟨R, 10, none⟩ = some (.int .i64 x.en) := IC.rf.cell 10 (by decide); have m11 : wC.cell? ⟨R, 11, none⟩ = some (.int .i64 x.ra) := IC.rf.cell 11 (by decide); have m12 : wC.cell? ⟨R, 12, none⟩ = some (.int .i64 x.sh) := IC.rf.cell 12 (by decide); have m13 : wC.cell? ⟨R, 13, none⟩ = some (.slice a x.z.length cap) := IC.rf.cell 13 (by decide); have mx := (k6.cell (p := ⟨gx, 1, none⟩) (World.block_lt_of_cell? _ _ ex)).trans ex)
          | (go_at_call 15; refine (F7 _ _ _ r1 r2).mono ?_; rintro e wD ⟨rfl, k7⟩; have ID := IC.below k7; have n0 : wD.cell? ⟨R, 0, none⟩ = some (.int .i64 x.k) := ID.rf.cell 0 (by decide); have n1 : wD.cell? ⟨R, 1, none⟩ = some (.string x.i) := ID.rf.cell 1 (by decide); have n2 : wD.cell? ⟨R, 2, none⟩ = some (.string x.t) := ID.rf.cell 2 (by decide); have n3 : wD.cell? ⟨R, 3, none⟩ = some (.string x.c) := ID.rf.cell 3 (by decide); have n4 : wD.cell? ⟨R, 4, none⟩ = some (.string x.s) := ID.rf.cell 4 (by decide); have n5 : wD.cell? ⟨R, 5, none⟩ = some (.int .i64 x.sd) := ID.rf.cell 5 (by decide); have n6 : wD.cell? ⟨R, 6, none⟩ = some (.int .i64 x.q) := ID.rf.cell 6 (by decide); have n7 : wD.cell? ⟨R, 7, none⟩ = some (.int .i64 x.p) := ID.rf.cell 7 (by decide); have n8 : wD.cell? ⟨R, 8, none⟩ = some (.int .i64 x.al) := ID.rf.cell 8 (by decide); have n9 : wD.cell? ⟨R, 9, none⟩ = some (.int .i64 x.st) := ID.rf.cell 9 (by decide); have n10 : wD.cell? ⟨R, 10, none⟩ = some (.int .i64 x.en) := ID.rf.cell 10 (by decide); have n11 : wD.cell? ⟨R, 11, none⟩ = some (.int .i64 x.ra) := ID.rf.cell 11 (by decide); have n12 : wD.cell? ⟨R, 12, none⟩ = some (.int .i64 x.sh) := ID.rf.cell 12 (by decide); have n13 : wD.cell? ⟨R, 13, none⟩ = some (.slice a x.z.length cap) := ID.rf.cell 13 (by decide); have nx := (k7.cell (p := ⟨gx, 1, none⟩) (World.block_lt_of_cell? _ _ mx)).trans mx)
          | (go_at_call 17; refine (over_yes ID.sl oa).mono ?_; rintro e wE ⟨rfl, rfl⟩))
        have IE : Hid (Duo w wD B P R vz (.slice a x.z.length cap) x.z x) := ID
        clear I6 IA IC ID F5 F6 F7 r1 r2 o5 k5 k6 k7 b5
        go_wp2_with fail
        go_roundw
        case rel => exact ⟨j + 1, x, by simp, by omega, IE.out⟩
        case measure => simp [RowKit.intOf]; omega
    · have d0 : ¬ (j : Int) < (n : Int) := by omega
      have HB : Hid (Below w.heap.size w wr) := I.out.rf.bel
      clear I
      go_wp2_with fail
      go_ret
      exact ⟨rfl, HB.out⟩
theorem slicerPlays_walk (w : World) (k : Int) (i t c s : ByteArray) (sd q p al st en ra sh : Int) (a : Option Addr) (cap : Nat) (cz : List Int) (row : Row w (.slice a cz.length cap) cz.length fun i => .int .i64 (cz.getD i 0)) (vol : Int) (_ : -9223372036854775808 ≤ vol ∧ vol ≤ 9223372036854775807) (v : Value) (n : Nat) (X : Nat → Opc) (ops : Ops w v n X) : Calls Tryz.prog 3 #[.agg #[.int .i64 k, .string i, .string t, .string c, .string s, .int .i64 sd, .int .i64 q, .int .i64 p, .int .i64 al, .int .i64 st, .int .i64 en, .int .i64 ra, .int .i64 sh, .slice a cz.length cap], .int .i64 vol, v] w fun e w' => e = .returned (.bool true) ∧ Below w.heap.size w w' := by
  obtain ⟨ad, capO, rfl, _⟩ := id ops
  cases hf : few27 i t c s cz.length
  · exact plays_few w k i t c s sd q p al st en ra sh a cap cz vol ad n capO hf
  by_cases hn : 60 < n
  · exact plays_many w k i t c s sd q p al st en ra sh a cap cz vol ad n capO hf hn
  cases hb : newB ⟨k, i, t, c, s, sd, q, p, al, st, en, ra, sh, cz, vol⟩
  · exact plays_wrong w k i t c s sd q p al st en ra sh a cap cz row vol ad n capO hf hn hb
  · exact plays_main w k i t c s sd q p al st en ra sh a cap cz row vol ad n capO X ops hf hn hb
theorem slicerPlays_own : ownKnob Tryz.prog.godebug = none := by kernel_rfl
theorem slicerPlays_laidOut : laidOutB Tryz.prog = true := by kernel_rfl
set_option maxRecDepth 100000 in
theorem slicerPlays_lifted (os : Os) (started : os.Started) (H : Type) (enc : TypeId × Value → H) :
    ReturnsInHanded {} Tryz.checked os 3 .any (Rows.slicerPlaysSpec.pre6 enc Tryz.prog Tryz.f3 Rows.slicerPlaysRow.domain false) (Rows.slicerPlaysSpec.post enc Tryz.prog Tryz.f3 false true false false) := by
  refine returnsInHanded_of_change (C := Tryz.checked) slicerPlays_own started (by kernel_rfl) Tryz.func3
    (ChangeSpec.witness6 (enc := enc) (C := Tryz.checked) false ⟨#[], #[.agg #[.int .i64 0, .string ⟨#[]⟩, .string ⟨#[]⟩, .string ⟨#[]⟩, .string ⟨#[]⟩, .int .i64 0, .int .i64 0, .int .i64 0, .int .i64 0, .int .i64 0, .int .i64 0, .int .i64 0, .int .i64 0, .slice none 0 0], .int .i64 0, .slice none 0 0], []⟩ 8 (by kernel_rfl) (by kernel_rfl) (by kernel_rfl) (by kernel_rfl)) ?_
  intro W base args ds gs before hval0 hW hcnd _
  have hval : ∀ (j : Nat) t v, Tryz.f3.params[j]? = some t → args[j]? = some v → Value.okWide Tryz.prog W .any base t v := hval0
  have hW' := hW
  obtain ⟨p, q, hA0, hV, rfl, hfz, hnd⟩ := hW
  have hA : DataW.TrodAll enc Tryz.prog W 0 (fun _ => true) true Tryz.f3.params.toList args.toList ds p := hA0
  rw [Tryz.params3] at hA hval
  obtain ⟨v0, vs0, d0, ds0, p0, q0, hargs, rfl, rfl, h0, r0⟩ := trodAll_cons hA
  obtain ⟨v1, vs1, d1, ds1, p1, q1, rfl, rfl, rfl, h1, r1⟩ := trodAll_cons r0
  obtain ⟨v2, vs2, d2, ds2, p2, q2, rfl, rfl, rfl, h2, r2⟩ := trodAll_cons r1
  obtain ⟨rfl, rfl, rfl⟩ := trodAll_nil r2
  obtain rfl : args = #[v0, v1, v2] := by cases args; simp_all
  obtain ⟨rfl, rfl⟩ := trodVars_none hV
  have k0 := h0
  have lt0 : ∀ x ∈ p0, x.block < W.heap.size := by obtain ⟨m, hm⟩ := k0; exact DataW.trod_lt m _ _ _ hm
  obtain ⟨k, i, t, c, s, sd, q, p, al, st, en, ra, sh, a, cap, cz, rfl, row⟩ := open_ask (hval 0 24 v0 rfl rfl) h0
  obtain ⟨a1, rfl, rfl, rfl, w1⟩ := open_int Tryz.underlying3 (hval 1 3 v1 rfl rfl) h1
  have bd1 := bounds_i64 w1
  obtain ⟨ad2, n2, cap2, rfl⟩ := okWide_slice Tryz.underlying25 (hval 2 25 v2 rfl rfl)
  have k2 := h2
  have lt2 : ∀ x ∈ p2, x.block < W.heap.size := by obtain ⟨m, hm⟩ := k2; exact DataW.trod_lt m _ _ _ hm
  obtain ⟨X2, ops2⟩ : ∃ X, SL.Ops W (.slice ad2 n2 cap2) n2 X := by obtain ⟨fuel, hf⟩ := h2; exact SL.open_ops hf
  clear hA0 hval0
  simp only [List.append_nil, List.nil_append] at hW'
  refine (slicerPlays_walk W k i t c s sd q p al st en ra sh a cap cz row a1 bd1 _ n2 X2 ops2).mono fun e W' ⟨he, bel⟩ => ?_
  subst he
  exact ⟨_, rfl, _, _, _, [], _, [], hW', trodAll_mk1 (shut_bool Tryz.underlying4 _), (trodAll_cons_mk (Below.trod slicerPlays_laidOut (by kernel_rfl) (of_decide_eq_true (by kernel_rfl)) k0 bel lt0) (trodAll_cons_mk (shut_int Tryz.underlying3 w1) (trodAll_cons_mk (Below.trod slicerPlays_laidOut (by kernel_rfl) (of_decide_eq_true (by kernel_rfl)) k2 bel lt2) trodAll_mk0))), rfl, bel.frame _, fun h => by cases h⟩

/-- THE STATEMENT. -/
theorem slicerPlays_proved : Rows.SlicerPlaysSaid :=
  OpenClaim.holds_of_wide 3 Tryz.f3 rfl rfl rfl rfl rfl rfl rfl ⟨rfl, rfl, rfl, rfl, rfl⟩ rfl rfl rfl rfl rfl (by kernel_rfl) Tryz.func3 (by kernel_rfl)
    (of_decide_eq_true (by kernel_rfl)) (by unfold Func.isWrapper; first | (rw [if_pos (by decide +kernel)]; kernel_rfl) | (rw [if_neg (by decide +kernel)]; exact ⟨rfl, rfl⟩))
    (fun os started H enc _ => slicerPlays_lifted os started H enc)
#print axioms slicerPlays_proved
end Go.Proofs.YtdacfnodihannaaGreat
