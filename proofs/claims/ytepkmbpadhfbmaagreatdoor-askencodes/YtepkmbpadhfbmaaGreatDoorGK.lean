/-
  Contracts of ask's fields and Encode.
-/
import Derived.Test.YtepkmbpadhfbmaaGreatDoorGJ
import Derived.Test.YtepkmbpadhfbmaaGreatDoorGB
namespace Go.Proofs.YtepkmbpadhfbmaaGreatDoor
open Go.ChangeShapes Go.WideShapes Go.ChangeAt Go.RowKit Go.Lib

/-- A new list of fields. -/
def ListNew (w : World) (F : List Fd) (e : Ending) (w' : World) : Prop := ∃ v base, e = .returned v ∧ w'.ownsRow base 74 2 v F.length (cells2 F) ∧ Below w.heap.size w w'
theorem PO.start (w : World) (k : Int) (i t c s : ByteArray) (sd q p al st en ra sh : Int) (cv : Value) : PO (boxA w k i t c s sd q p al st en ra sh cv) ((boxA w k i t c s sd q p al st en ra sh cv).alloc (.cells #[.slice none 0 0] 42)) (w.heap.size + 1) w.heap.size [] k i t c s sd q p al st en ra sh cv := by
  have hz : (boxA w k i t c s sd q p al st en ra sh cv).heap.size = w.heap.size + 1 := by simp
  have b1 : Below (boxA w k i t c s sd q p al st en ra sh cv).heap.size (boxA w k i t c s sd q p al st en ra sh cv) ((boxA w k i t c s sd q p al st en ra sh cv).alloc (.cells #[.slice none 0 0] 42)) := (Below.refl _ _).alloc (Nat.le_refl _) _
  refine ⟨⟨.slice none 0 0, ⟨?_, ?_, World.ownsRow_nil _ _ _ _⟩, by simp [Value.ownBlock]⟩, (AskAt.box w k i t c s sd q p al st en ra sh cv).still b1 (by rw [hz]; omega), by omega, by rw [hz]; omega, by rw [hz] at b1; exact b1⟩
  · rw [← hz]; simp
  · rw [← hz]; simp
set_option maxHeartbeats 8000000 in
theorem fields_2 (i t c s : ByteArray) (sd q p al st en ra sh : Int) (a : Option Addr) (cap : Nat) (cz : List Nat) (w : World) (R : RightP ⟨2, i, t, c, s, sd, q, p, al, st, en, ra, sh, cz⟩) (hl : Let w) (hp : Pow w) (hr : Row w (.slice a cz.length cap) cz.length fun i => .int .i64 ((cz.getD i 0 : Nat) : Int)) :
    Calls Tryz.prog 16 #[.agg #[.int .i64 2, .string i, .string t, .string c, .string s, .int .i64 sd, .int .i64 q, .int .i64 p, .int .i64 al, .int .i64 st, .int .i64 en, .int .i64 ra, .int .i64 sh, .slice a cz.length cap]] w (ListNew w (fieldsP ⟨2, i, t, c, s, sd, q, p, al, st, en, ra, sh, cz⟩)) := by
  have B0 := boxA_below w 2 i t c s sd q p al st en ra sh (.slice a cz.length cap)
  have HB0 : Hid (Below w.heap.size w (boxA w 2 i t c s sd q p al st en ra sh (.slice a cz.length cap))) := B0
  have hz : (boxA w 2 i t c s sd q p al st en ra sh (.slice a cz.length cap)).heap.size = w.heap.size + 1 := by simp
  have HP : Hid (Pow (boxA w 2 i t c s sd q p al st en ra sh (.slice a cz.length cap))) := hp.still B0
  have HRW : Hid (Row (boxA w 2 i t c s sd q p al st en ra sh (.slice a cz.length cap)) (.slice a cz.length cap) cz.length fun i => .int .i64 ((cz.getD i 0 : Nat) : Int)) := hr.below B0
  have Q0 : Hid (PO (boxA w 2 i t c s sd q p al st en ra sh (.slice a cz.length cap)) ((boxA w 2 i t c s sd q p al st en ra sh (.slice a cz.length cap)).alloc (.cells #[.slice none 0 0] 42)) (w.heap.size + 1) w.heap.size [] 2 i t c s sd q p al st en ra sh (.slice a cz.length cap)) := PO.start w 2 i t c s sd q p al st en ra sh (.slice a cz.length cap)
  have HR : Hid (RightP ⟨2, i, t, c, s, sd, q, p, al, st, en, ra, sh, cz⟩) := R
  obtain ⟨l0, l1, l2, l3, l4, l5⟩ := (hl.still B0).still ((Below.refl _ _).alloc (Nat.le_refl _) (.cells #[.slice none 0 0] 42))
  obtain ⟨d0, d1, d2, d3, d4, d5, d6, d7, d8, d9, d10, d11, d12, d13⟩ := Q0.out.ask
  clear R hl hp hr B0
  go_enter Tryz.func16, Tryz.ntmps16
  go_wp2_with fail
  have F1 := Q0.out.put (by simp) 35 (.iface 9 (.string ⟨#[70]⟩)) _ (tx_str _ _)
  refine F1.mono ?_
  rintro e w1 ⟨rfl, P1⟩
  have Q1 : Hid (PO (boxA w 2 i t c s sd q p al st en ra sh (.slice a cz.length cap)) w1 (w.heap.size + 1) w.heap.size ([] ++ [(35, ⟨#[70]⟩)]) 2 i t c s sd q p al st en ra sh (.slice a cz.length cap)) := P1
  clear F1 P1 d0 d1 d2 d3 d4 d5 d6 d7 d8 d9 d10 d11 d12 d13
  have F2 := Q1.out.put (by simp) 11 (.iface 9 (.string i)) _ (tx_str _ _)
  obtain ⟨d0, d1, d2, d3, d4, d5, d6, d7, d8, d9, d10, d11, d12, d13⟩ := Q1.out.ask
  go_wp2_with fail
  refine F2.mono ?_
  rintro e w2 ⟨rfl, P2⟩
  have Q2 : Hid (PO (boxA w 2 i t c s sd q p al st en ra sh (.slice a cz.length cap)) w2 (w.heap.size + 1) w.heap.size ([] ++ [(35, ⟨#[70]⟩)] ++ [(11, i)]) 2 i t c s sd q p al st en ra sh (.slice a cz.length cap)) := P2
  clear F2 P2 d0 d1 d2 d3 d4 d5 d6 d7 d8 d9 d10 d11 d12 d13
  have F3 := Q2.out.put (by simp) 41 (.iface 9 (.string t)) _ (tx_str _ _)
  obtain ⟨d0, d1, d2, d3, d4, d5, d6, d7, d8, d9, d10, d11, d12, d13⟩ := Q2.out.ask
  go_wp2_with fail
  refine F3.mono ?_
  rintro e w3 ⟨rfl, P3⟩
  have Q3 : Hid (PO (boxA w 2 i t c s sd q p al st en ra sh (.slice a cz.length cap)) w3 (w.heap.size + 1) w.heap.size ([] ++ [(35, ⟨#[70]⟩)] ++ [(11, i)] ++ [(41, t)]) 2 i t c s sd q p al st en ra sh (.slice a cz.length cap)) := P3
  clear F3 P3 d0 d1 d2 d3 d4 d5 d6 d7 d8 d9 d10 d11 d12 d13
  obtain ⟨v9, hV9, _⟩ := Q3.out.lst
  have c9 := hV9.cell
  have HV : Hid (LstV w3 (w.heap.size + 1) v9 ([] ++ [(35, ⟨#[70]⟩)] ++ [(11, i)] ++ [(41, t)])) := hV9
  have HBB : Hid (Below (w.heap.size + 1) (boxA w 2 i t c s sd q p al st en ra sh (.slice a cz.length cap)) w3) := Q3.out.below
  clear hV9
  go_wp2_with fail
  go_ret
  refine ⟨v9, w.heap.size + 1 + 1, rfl, ?_, HB0.out.trans (HBB.out.mono (Nat.le_succ _))⟩
  have e9 : [] ++ [(35, ⟨#[70]⟩)] ++ [(11, i)] ++ [(41, t)] = fieldsP ⟨2, i, t, c, s, sd, q, p, al, st, en, ra, sh, cz⟩ := by
    unfold fieldsP
    simp [wordT]
  rw [← e9]
  exact HV.out.own
set_option maxHeartbeats 8000000 in
theorem fields_4 (i t c s : ByteArray) (sd q p al st en ra sh : Int) (a : Option Addr) (cap : Nat) (cz : List Nat) (w : World) (R : RightP ⟨4, i, t, c, s, sd, q, p, al, st, en, ra, sh, cz⟩) (hl : Let w) (hp : Pow w) (hr : Row w (.slice a cz.length cap) cz.length fun i => .int .i64 ((cz.getD i 0 : Nat) : Int)) :
    Calls Tryz.prog 16 #[.agg #[.int .i64 4, .string i, .string t, .string c, .string s, .int .i64 sd, .int .i64 q, .int .i64 p, .int .i64 al, .int .i64 st, .int .i64 en, .int .i64 ra, .int .i64 sh, .slice a cz.length cap]] w (ListNew w (fieldsP ⟨4, i, t, c, s, sd, q, p, al, st, en, ra, sh, cz⟩)) := by
  have B0 := boxA_below w 4 i t c s sd q p al st en ra sh (.slice a cz.length cap)
  have HB0 : Hid (Below w.heap.size w (boxA w 4 i t c s sd q p al st en ra sh (.slice a cz.length cap))) := B0
  have hz : (boxA w 4 i t c s sd q p al st en ra sh (.slice a cz.length cap)).heap.size = w.heap.size + 1 := by simp
  have HP : Hid (Pow (boxA w 4 i t c s sd q p al st en ra sh (.slice a cz.length cap))) := hp.still B0
  have HRW : Hid (Row (boxA w 4 i t c s sd q p al st en ra sh (.slice a cz.length cap)) (.slice a cz.length cap) cz.length fun i => .int .i64 ((cz.getD i 0 : Nat) : Int)) := hr.below B0
  have Q0 : Hid (PO (boxA w 4 i t c s sd q p al st en ra sh (.slice a cz.length cap)) ((boxA w 4 i t c s sd q p al st en ra sh (.slice a cz.length cap)).alloc (.cells #[.slice none 0 0] 42)) (w.heap.size + 1) w.heap.size [] 4 i t c s sd q p al st en ra sh (.slice a cz.length cap)) := PO.start w 4 i t c s sd q p al st en ra sh (.slice a cz.length cap)
  have HR : Hid (RightP ⟨4, i, t, c, s, sd, q, p, al, st, en, ra, sh, cz⟩) := R
  obtain ⟨l0, l1, l2, l3, l4, l5⟩ := (hl.still B0).still ((Below.refl _ _).alloc (Nat.le_refl _) (.cells #[.slice none 0 0] 42))
  obtain ⟨d0, d1, d2, d3, d4, d5, d6, d7, d8, d9, d10, d11, d12, d13⟩ := Q0.out.ask
  clear R hl hp hr B0
  go_enter Tryz.func16, Tryz.ntmps16
  go_wp2_with fail
  have F1 := Q0.out.put (by simp) 35 (.iface 9 (.string ⟨#[85, 80]⟩)) _ (tx_str _ _)
  refine F1.mono ?_
  rintro e w1 ⟨rfl, P1⟩
  have Q1 : Hid (PO (boxA w 4 i t c s sd q p al st en ra sh (.slice a cz.length cap)) w1 (w.heap.size + 1) w.heap.size ([] ++ [(35, ⟨#[85, 80]⟩)]) 4 i t c s sd q p al st en ra sh (.slice a cz.length cap)) := P1
  clear F1 P1 d0 d1 d2 d3 d4 d5 d6 d7 d8 d9 d10 d11 d12 d13
  have F2 := Q1.out.put (by simp) 11 (.iface 9 (.string i)) _ (tx_str _ _)
  obtain ⟨d0, d1, d2, d3, d4, d5, d6, d7, d8, d9, d10, d11, d12, d13⟩ := Q1.out.ask
  go_wp2_with fail
  refine F2.mono ?_
  rintro e w2 ⟨rfl, P2⟩
  have Q2 : Hid (PO (boxA w 4 i t c s sd q p al st en ra sh (.slice a cz.length cap)) w2 (w.heap.size + 1) w.heap.size ([] ++ [(35, ⟨#[85, 80]⟩)] ++ [(11, i)]) 4 i t c s sd q p al st en ra sh (.slice a cz.length cap)) := P2
  clear F2 P2 d0 d1 d2 d3 d4 d5 d6 d7 d8 d9 d10 d11 d12 d13
  have F3 := Q2.out.put (by simp) 41 (.iface 9 (.string t)) _ (tx_str _ _)
  obtain ⟨d0, d1, d2, d3, d4, d5, d6, d7, d8, d9, d10, d11, d12, d13⟩ := Q2.out.ask
  go_wp2_with fail
  refine F3.mono ?_
  rintro e w3 ⟨rfl, P3⟩
  have Q3 : Hid (PO (boxA w 4 i t c s sd q p al st en ra sh (.slice a cz.length cap)) w3 (w.heap.size + 1) w.heap.size ([] ++ [(35, ⟨#[85, 80]⟩)] ++ [(11, i)] ++ [(41, t)]) 4 i t c s sd q p al st en ra sh (.slice a cz.length cap)) := P3
  clear F3 P3 d0 d1 d2 d3 d4 d5 d6 d7 d8 d9 d10 d11 d12 d13
  obtain ⟨v9, hV9, _⟩ := Q3.out.lst
  have c9 := hV9.cell
  have HV : Hid (LstV w3 (w.heap.size + 1) v9 ([] ++ [(35, ⟨#[85, 80]⟩)] ++ [(11, i)] ++ [(41, t)])) := hV9
  have HBB : Hid (Below (w.heap.size + 1) (boxA w 4 i t c s sd q p al st en ra sh (.slice a cz.length cap)) w3) := Q3.out.below
  clear hV9
  go_wp2_with fail
  go_ret
  refine ⟨v9, w.heap.size + 1 + 1, rfl, ?_, HB0.out.trans (HBB.out.mono (Nat.le_succ _))⟩
  have e9 : [] ++ [(35, ⟨#[85, 80]⟩)] ++ [(11, i)] ++ [(41, t)] = fieldsP ⟨4, i, t, c, s, sd, q, p, al, st, en, ra, sh, cz⟩ := by
    unfold fieldsP
    simp [wordT]
  rw [← e9]
  exact HV.out.own
set_option maxHeartbeats 8000000 in
theorem fields_5 (i t c s : ByteArray) (sd q p al st en ra sh : Int) (a : Option Addr) (cap : Nat) (cz : List Nat) (w : World) (R : RightP ⟨5, i, t, c, s, sd, q, p, al, st, en, ra, sh, cz⟩) (hl : Let w) (hp : Pow w) (hr : Row w (.slice a cz.length cap) cz.length fun i => .int .i64 ((cz.getD i 0 : Nat) : Int)) :
    Calls Tryz.prog 16 #[.agg #[.int .i64 5, .string i, .string t, .string c, .string s, .int .i64 sd, .int .i64 q, .int .i64 p, .int .i64 al, .int .i64 st, .int .i64 en, .int .i64 ra, .int .i64 sh, .slice a cz.length cap]] w (ListNew w (fieldsP ⟨5, i, t, c, s, sd, q, p, al, st, en, ra, sh, cz⟩)) := by
  have B0 := boxA_below w 5 i t c s sd q p al st en ra sh (.slice a cz.length cap)
  have HB0 : Hid (Below w.heap.size w (boxA w 5 i t c s sd q p al st en ra sh (.slice a cz.length cap))) := B0
  have hz : (boxA w 5 i t c s sd q p al st en ra sh (.slice a cz.length cap)).heap.size = w.heap.size + 1 := by simp
  have HP : Hid (Pow (boxA w 5 i t c s sd q p al st en ra sh (.slice a cz.length cap))) := hp.still B0
  have HRW : Hid (Row (boxA w 5 i t c s sd q p al st en ra sh (.slice a cz.length cap)) (.slice a cz.length cap) cz.length fun i => .int .i64 ((cz.getD i 0 : Nat) : Int)) := hr.below B0
  have Q0 : Hid (PO (boxA w 5 i t c s sd q p al st en ra sh (.slice a cz.length cap)) ((boxA w 5 i t c s sd q p al st en ra sh (.slice a cz.length cap)).alloc (.cells #[.slice none 0 0] 42)) (w.heap.size + 1) w.heap.size [] 5 i t c s sd q p al st en ra sh (.slice a cz.length cap)) := PO.start w 5 i t c s sd q p al st en ra sh (.slice a cz.length cap)
  have HR : Hid (RightP ⟨5, i, t, c, s, sd, q, p, al, st, en, ra, sh, cz⟩) := R
  obtain ⟨l0, l1, l2, l3, l4, l5⟩ := (hl.still B0).still ((Below.refl _ _).alloc (Nat.le_refl _) (.cells #[.slice none 0 0] 42))
  obtain ⟨d0, d1, d2, d3, d4, d5, d6, d7, d8, d9, d10, d11, d12, d13⟩ := Q0.out.ask
  clear R hl hp hr B0
  go_enter Tryz.func16, Tryz.ntmps16
  go_wp2_with fail
  have F1 := Q0.out.put (by simp) 35 (.iface 9 (.string ⟨#[85, 82]⟩)) _ (tx_str _ _)
  refine F1.mono ?_
  rintro e w1 ⟨rfl, P1⟩
  have Q1 : Hid (PO (boxA w 5 i t c s sd q p al st en ra sh (.slice a cz.length cap)) w1 (w.heap.size + 1) w.heap.size ([] ++ [(35, ⟨#[85, 82]⟩)]) 5 i t c s sd q p al st en ra sh (.slice a cz.length cap)) := P1
  clear F1 P1 d0 d1 d2 d3 d4 d5 d6 d7 d8 d9 d10 d11 d12 d13
  have F2 := Q1.out.put (by simp) 11 (.iface 9 (.string i)) _ (tx_str _ _)
  obtain ⟨d0, d1, d2, d3, d4, d5, d6, d7, d8, d9, d10, d11, d12, d13⟩ := Q1.out.ask
  go_wp2_with fail
  refine F2.mono ?_
  rintro e w2 ⟨rfl, P2⟩
  have Q2 : Hid (PO (boxA w 5 i t c s sd q p al st en ra sh (.slice a cz.length cap)) w2 (w.heap.size + 1) w.heap.size ([] ++ [(35, ⟨#[85, 82]⟩)] ++ [(11, i)]) 5 i t c s sd q p al st en ra sh (.slice a cz.length cap)) := P2
  clear F2 P2 d0 d1 d2 d3 d4 d5 d6 d7 d8 d9 d10 d11 d12 d13
  have F3 := Q2.out.put (by simp) 41 (.iface 9 (.string t)) _ (tx_str _ _)
  obtain ⟨d0, d1, d2, d3, d4, d5, d6, d7, d8, d9, d10, d11, d12, d13⟩ := Q2.out.ask
  go_wp2_with fail
  refine F3.mono ?_
  rintro e w3 ⟨rfl, P3⟩
  have Q3 : Hid (PO (boxA w 5 i t c s sd q p al st en ra sh (.slice a cz.length cap)) w3 (w.heap.size + 1) w.heap.size ([] ++ [(35, ⟨#[85, 82]⟩)] ++ [(11, i)] ++ [(41, t)]) 5 i t c s sd q p al st en ra sh (.slice a cz.length cap)) := P3
  clear F3 P3 d0 d1 d2 d3 d4 d5 d6 d7 d8 d9 d10 d11 d12 d13
  obtain ⟨v9, hV9, _⟩ := Q3.out.lst
  have c9 := hV9.cell
  have HV : Hid (LstV w3 (w.heap.size + 1) v9 ([] ++ [(35, ⟨#[85, 82]⟩)] ++ [(11, i)] ++ [(41, t)])) := hV9
  have HBB : Hid (Below (w.heap.size + 1) (boxA w 5 i t c s sd q p al st en ra sh (.slice a cz.length cap)) w3) := Q3.out.below
  clear hV9
  go_wp2_with fail
  go_ret
  refine ⟨v9, w.heap.size + 1 + 1, rfl, ?_, HB0.out.trans (HBB.out.mono (Nat.le_succ _))⟩
  have e9 : [] ++ [(35, ⟨#[85, 82]⟩)] ++ [(11, i)] ++ [(41, t)] = fieldsP ⟨5, i, t, c, s, sd, q, p, al, st, en, ra, sh, cz⟩ := by
    unfold fieldsP
    simp [wordT]
  rw [← e9]
  exact HV.out.own
set_option maxHeartbeats 8000000 in
theorem fields_3 (i t c s : ByteArray) (sd q p al st en ra sh : Int) (a : Option Addr) (cap : Nat) (cz : List Nat) (w : World) (R : RightP ⟨3, i, t, c, s, sd, q, p, al, st, en, ra, sh, cz⟩) (hl : Let w) (hp : Pow w) (hr : Row w (.slice a cz.length cap) cz.length fun i => .int .i64 ((cz.getD i 0 : Nat) : Int)) :
    Calls Tryz.prog 16 #[.agg #[.int .i64 3, .string i, .string t, .string c, .string s, .int .i64 sd, .int .i64 q, .int .i64 p, .int .i64 al, .int .i64 st, .int .i64 en, .int .i64 ra, .int .i64 sh, .slice a cz.length cap]] w (ListNew w (fieldsP ⟨3, i, t, c, s, sd, q, p, al, st, en, ra, sh, cz⟩)) := by
  have B0 := boxA_below w 3 i t c s sd q p al st en ra sh (.slice a cz.length cap)
  have HB0 : Hid (Below w.heap.size w (boxA w 3 i t c s sd q p al st en ra sh (.slice a cz.length cap))) := B0
  have hz : (boxA w 3 i t c s sd q p al st en ra sh (.slice a cz.length cap)).heap.size = w.heap.size + 1 := by simp
  have HP : Hid (Pow (boxA w 3 i t c s sd q p al st en ra sh (.slice a cz.length cap))) := hp.still B0
  have HRW : Hid (Row (boxA w 3 i t c s sd q p al st en ra sh (.slice a cz.length cap)) (.slice a cz.length cap) cz.length fun i => .int .i64 ((cz.getD i 0 : Nat) : Int)) := hr.below B0
  have Q0 : Hid (PO (boxA w 3 i t c s sd q p al st en ra sh (.slice a cz.length cap)) ((boxA w 3 i t c s sd q p al st en ra sh (.slice a cz.length cap)).alloc (.cells #[.slice none 0 0] 42)) (w.heap.size + 1) w.heap.size [] 3 i t c s sd q p al st en ra sh (.slice a cz.length cap)) := PO.start w 3 i t c s sd q p al st en ra sh (.slice a cz.length cap)
  have HR : Hid (RightP ⟨3, i, t, c, s, sd, q, p, al, st, en, ra, sh, cz⟩) := R
  obtain ⟨l0, l1, l2, l3, l4, l5⟩ := (hl.still B0).still ((Below.refl _ _).alloc (Nat.le_refl _) (.cells #[.slice none 0 0] 42))
  obtain ⟨d0, d1, d2, d3, d4, d5, d6, d7, d8, d9, d10, d11, d12, d13⟩ := Q0.out.ask
  clear R hl hp hr B0
  go_enter Tryz.func16, Tryz.ntmps16
  go_wp2_with fail
  have F1 := Q0.out.put (by simp) 35 (.iface 9 (.string ⟨#[71]⟩)) _ (tx_str _ _)
  refine F1.mono ?_
  rintro e w1 ⟨rfl, P1⟩
  have Q1 : Hid (PO (boxA w 3 i t c s sd q p al st en ra sh (.slice a cz.length cap)) w1 (w.heap.size + 1) w.heap.size ([] ++ [(35, ⟨#[71]⟩)]) 3 i t c s sd q p al st en ra sh (.slice a cz.length cap)) := P1
  clear F1 P1 d0 d1 d2 d3 d4 d5 d6 d7 d8 d9 d10 d11 d12 d13
  have F2 := Q1.out.put (by simp) 11 (.iface 9 (.string i)) _ (tx_str _ _)
  obtain ⟨d0, d1, d2, d3, d4, d5, d6, d7, d8, d9, d10, d11, d12, d13⟩ := Q1.out.ask
  go_wp2_with fail
  refine F2.mono ?_
  rintro e w2 ⟨rfl, P2⟩
  have Q2 : Hid (PO (boxA w 3 i t c s sd q p al st en ra sh (.slice a cz.length cap)) w2 (w.heap.size + 1) w.heap.size ([] ++ [(35, ⟨#[71]⟩)] ++ [(11, i)]) 3 i t c s sd q p al st en ra sh (.slice a cz.length cap)) := P2
  clear F2 P2 d0 d1 d2 d3 d4 d5 d6 d7 d8 d9 d10 d11 d12 d13
  have F3 := Q2.out.put (by simp) 41 (.iface 9 (.string t)) _ (tx_str _ _)
  obtain ⟨d0, d1, d2, d3, d4, d5, d6, d7, d8, d9, d10, d11, d12, d13⟩ := Q2.out.ask
  go_wp2_with fail
  refine F3.mono ?_
  rintro e w3 ⟨rfl, P3⟩
  have Q3 : Hid (PO (boxA w 3 i t c s sd q p al st en ra sh (.slice a cz.length cap)) w3 (w.heap.size + 1) w.heap.size ([] ++ [(35, ⟨#[71]⟩)] ++ [(11, i)] ++ [(41, t)]) 3 i t c s sd q p al st en ra sh (.slice a cz.length cap)) := P3
  clear F3 P3 d0 d1 d2 d3 d4 d5 d6 d7 d8 d9 d10 d11 d12 d13
  have F4 := Q3.out.put (by simp) 38 (.iface 3 (.int .i64 q)) _ (tx_int HP.out q (by have := (HR.out.nums (.inr rfl)).1.1; dsimp only at this; omega) (HR.out.nums (.inr rfl)).1.2)
  obtain ⟨d0, d1, d2, d3, d4, d5, d6, d7, d8, d9, d10, d11, d12, d13⟩ := Q3.out.ask
  go_wp2_with fail
  refine F4.mono ?_
  rintro e w4 ⟨rfl, P4⟩
  have Q4 : Hid (PO (boxA w 3 i t c s sd q p al st en ra sh (.slice a cz.length cap)) w4 (w.heap.size + 1) w.heap.size ([] ++ [(35, ⟨#[71]⟩)] ++ [(11, i)] ++ [(41, t)] ++ [(38, numT q)]) 3 i t c s sd q p al st en ra sh (.slice a cz.length cap)) := P4
  clear F4 P4 d0 d1 d2 d3 d4 d5 d6 d7 d8 d9 d10 d11 d12 d13
  have F5 := Q4.out.put (by simp) 44 (.iface 3 (.int .i64 p)) _ (tx_int HP.out p (by have := (HR.out.nums (.inr rfl)).2.1.1; dsimp only at this; omega) (HR.out.nums (.inr rfl)).2.1.2)
  obtain ⟨d0, d1, d2, d3, d4, d5, d6, d7, d8, d9, d10, d11, d12, d13⟩ := Q4.out.ask
  go_wp2_with fail
  refine F5.mono ?_
  rintro e w5 ⟨rfl, P5⟩
  have Q5 : Hid (PO (boxA w 3 i t c s sd q p al st en ra sh (.slice a cz.length cap)) w5 (w.heap.size + 1) w.heap.size ([] ++ [(35, ⟨#[71]⟩)] ++ [(11, i)] ++ [(41, t)] ++ [(38, numT q)] ++ [(44, numT p)]) 3 i t c s sd q p al st en ra sh (.slice a cz.length cap)) := P5
  clear F5 P5 d0 d1 d2 d3 d4 d5 d6 d7 d8 d9 d10 d11 d12 d13
  have F6 := Q5.out.put (by simp) 5003 (.iface 3 (.int .i64 en)) _ (tx_int HP.out en (HR.out.nums (.inr rfl)).2.2.1 (HR.out.nums (.inr rfl)).2.2.2)
  obtain ⟨d0, d1, d2, d3, d4, d5, d6, d7, d8, d9, d10, d11, d12, d13⟩ := Q5.out.ask
  go_wp2_with fail
  refine F6.mono ?_
  rintro e w6 ⟨rfl, P6⟩
  have Q6 : Hid (PO (boxA w 3 i t c s sd q p al st en ra sh (.slice a cz.length cap)) w6 (w.heap.size + 1) w.heap.size ([] ++ [(35, ⟨#[71]⟩)] ++ [(11, i)] ++ [(41, t)] ++ [(38, numT q)] ++ [(44, numT p)] ++ [(5003, numT en)]) 3 i t c s sd q p al st en ra sh (.slice a cz.length cap)) := P6
  clear F6 P6 d0 d1 d2 d3 d4 d5 d6 d7 d8 d9 d10 d11 d12 d13
  obtain ⟨v9, hV9, _⟩ := Q6.out.lst
  have c9 := hV9.cell
  have HV : Hid (LstV w6 (w.heap.size + 1) v9 ([] ++ [(35, ⟨#[71]⟩)] ++ [(11, i)] ++ [(41, t)] ++ [(38, numT q)] ++ [(44, numT p)] ++ [(5003, numT en)])) := hV9
  have HBB : Hid (Below (w.heap.size + 1) (boxA w 3 i t c s sd q p al st en ra sh (.slice a cz.length cap)) w6) := Q6.out.below
  clear hV9
  go_wp2_with fail
  go_ret
  refine ⟨v9, w.heap.size + 1 + 1, rfl, ?_, HB0.out.trans (HBB.out.mono (Nat.le_succ _))⟩
  have e9 : [] ++ [(35, ⟨#[71]⟩)] ++ [(11, i)] ++ [(41, t)] ++ [(38, numT q)] ++ [(44, numT p)] ++ [(5003, numT en)] = fieldsP ⟨3, i, t, c, s, sd, q, p, al, st, en, ra, sh, cz⟩ := by
    unfold fieldsP
    simp [wordT]
  rw [← e9]
  exact HV.out.own
set_option maxHeartbeats 8000000 in
theorem fields_1 (i t c s : ByteArray) (sd q p al st en ra sh : Int) (a : Option Addr) (cap : Nat) (cz : List Nat) (w : World) (R : RightP ⟨1, i, t, c, s, sd, q, p, al, st, en, ra, sh, cz⟩) (hl : Let w) (hp : Pow w) (hr : Row w (.slice a cz.length cap) cz.length fun i => .int .i64 ((cz.getD i 0 : Nat) : Int)) :
    Calls Tryz.prog 16 #[.agg #[.int .i64 1, .string i, .string t, .string c, .string s, .int .i64 sd, .int .i64 q, .int .i64 p, .int .i64 al, .int .i64 st, .int .i64 en, .int .i64 ra, .int .i64 sh, .slice a cz.length cap]] w (ListNew w (fieldsP ⟨1, i, t, c, s, sd, q, p, al, st, en, ra, sh, cz⟩)) := by
  have B0 := boxA_below w 1 i t c s sd q p al st en ra sh (.slice a cz.length cap)
  have HB0 : Hid (Below w.heap.size w (boxA w 1 i t c s sd q p al st en ra sh (.slice a cz.length cap))) := B0
  have hz : (boxA w 1 i t c s sd q p al st en ra sh (.slice a cz.length cap)).heap.size = w.heap.size + 1 := by simp
  have HP : Hid (Pow (boxA w 1 i t c s sd q p al st en ra sh (.slice a cz.length cap))) := hp.still B0
  have HRW : Hid (Row (boxA w 1 i t c s sd q p al st en ra sh (.slice a cz.length cap)) (.slice a cz.length cap) cz.length fun i => .int .i64 ((cz.getD i 0 : Nat) : Int)) := hr.below B0
  have Q0 : Hid (PO (boxA w 1 i t c s sd q p al st en ra sh (.slice a cz.length cap)) ((boxA w 1 i t c s sd q p al st en ra sh (.slice a cz.length cap)).alloc (.cells #[.slice none 0 0] 42)) (w.heap.size + 1) w.heap.size [] 1 i t c s sd q p al st en ra sh (.slice a cz.length cap)) := PO.start w 1 i t c s sd q p al st en ra sh (.slice a cz.length cap)
  have HR : Hid (RightP ⟨1, i, t, c, s, sd, q, p, al, st, en, ra, sh, cz⟩) := R
  obtain ⟨l0, l1, l2, l3, l4, l5⟩ := (hl.still B0).still ((Below.refl _ _).alloc (Nat.le_refl _) (.cells #[.slice none 0 0] 42))
  obtain ⟨d0, d1, d2, d3, d4, d5, d6, d7, d8, d9, d10, d11, d12, d13⟩ := Q0.out.ask
  clear R hl hp hr B0
  go_enter Tryz.func16, Tryz.ntmps16
  go_wp2_with fail
  have F1 := Q0.out.put (by simp) 35 (.iface 9 (.string ⟨#[68]⟩)) _ (tx_str _ _)
  refine F1.mono ?_
  rintro e w1 ⟨rfl, P1⟩
  have Q1 : Hid (PO (boxA w 1 i t c s sd q p al st en ra sh (.slice a cz.length cap)) w1 (w.heap.size + 1) w.heap.size ([] ++ [(35, ⟨#[68]⟩)]) 1 i t c s sd q p al st en ra sh (.slice a cz.length cap)) := P1
  clear F1 P1 d0 d1 d2 d3 d4 d5 d6 d7 d8 d9 d10 d11 d12 d13
  have F2 := Q1.out.put (by simp) 11 (.iface 9 (.string i)) _ (tx_str _ _)
  obtain ⟨d0, d1, d2, d3, d4, d5, d6, d7, d8, d9, d10, d11, d12, d13⟩ := Q1.out.ask
  go_wp2_with fail
  refine F2.mono ?_
  rintro e w2 ⟨rfl, P2⟩
  have Q2 : Hid (PO (boxA w 1 i t c s sd q p al st en ra sh (.slice a cz.length cap)) w2 (w.heap.size + 1) w.heap.size ([] ++ [(35, ⟨#[68]⟩)] ++ [(11, i)]) 1 i t c s sd q p al st en ra sh (.slice a cz.length cap)) := P2
  clear F2 P2 d0 d1 d2 d3 d4 d5 d6 d7 d8 d9 d10 d11 d12 d13
  have NU : Nums sd q p al st en := by
    have n := HR.out.nums (.inl rfl)
    have m := HR.out.new rfl
    exact ⟨by have := m.2.2.2.1; dsimp only at this; omega, by have := n.1; dsimp only at this; omega, by have := n.2.1; dsimp only at this; omega, by have := m.2.2.2.2.1; dsimp only at this; omega, by have := m.2.2.2.2.2.1; dsimp only at this; omega, by have := n.2.2; dsimp only at this; omega⟩
  have F3 := putOrder_any Q2.out (by simp) HP.out 1 i t c s sd q p al st en ra sh a cap cz NU (fun e => HR.out.vwap.1 e) (fun e => by have := HR.out.flow.1 e; dsimp only at this; omega) (fun e => by have := HR.out.berg.1 e; dsimp only at this; omega) HRW.out
  obtain ⟨d0, d1, d2, d3, d4, d5, d6, d7, d8, d9, d10, d11, d12, d13⟩ := Q2.out.ask
  go_wp2_with fail
  refine F3.mono ?_
  rintro e w3 ⟨rfl, LV, BB⟩
  have HLV : Hid (∃ v, LstV w3 (w.heap.size + 1) v ([] ++ [(35, ⟨#[68]⟩)] ++ [(11, i)] ++ [(1, c)] ++ [(55, s)] ++ [(54, numT sd)] ++ [(38, numT q)] ++ [(44, numT p)] ++ [(5001, numT al)] ++ [(5002, numT st)] ++ [(5003, numT en)] ++ tailF ⟨1, i, t, c, s, sd, q, p, al, st, en, ra, sh, cz⟩)) := LV
  clear F3 LV d0 d1 d2 d3 d4 d5 d6 d7 d8 d9 d10 d11 d12 d13 NU
  obtain ⟨v9, hV9⟩ := HLV.out
  have c9 := hV9.cell
  have HV : Hid (LstV w3 (w.heap.size + 1) v9 ([] ++ [(35, ⟨#[68]⟩)] ++ [(11, i)] ++ [(1, c)] ++ [(55, s)] ++ [(54, numT sd)] ++ [(38, numT q)] ++ [(44, numT p)] ++ [(5001, numT al)] ++ [(5002, numT st)] ++ [(5003, numT en)] ++ tailF ⟨1, i, t, c, s, sd, q, p, al, st, en, ra, sh, cz⟩)) := hV9
  have HBB : Hid (Below (w.heap.size + 1) (boxA w 1 i t c s sd q p al st en ra sh (.slice a cz.length cap)) w3) := BB
  clear hV9
  go_wp2_with fail
  go_ret
  refine ⟨v9, w.heap.size + 1 + 1, rfl, ?_, HB0.out.trans (HBB.out.mono (Nat.le_succ _))⟩
  have e9 : [] ++ [(35, ⟨#[68]⟩)] ++ [(11, i)] ++ [(1, c)] ++ [(55, s)] ++ [(54, numT sd)] ++ [(38, numT q)] ++ [(44, numT p)] ++ [(5001, numT al)] ++ [(5002, numT st)] ++ [(5003, numT en)] ++ tailF ⟨1, i, t, c, s, sd, q, p, al, st, en, ra, sh, cz⟩ = fieldsP ⟨1, i, t, c, s, sd, q, p, al, st, en, ra, sh, cz⟩ := by
    unfold fieldsP
    simp [wordT]
  rw [← e9]
  exact HV.out.own
theorem askFields_any (k : Int) (i t c s : ByteArray) (sd q p al st en ra sh : Int) (a : Option Addr) (cap : Nat) (cz : List Nat) (w : World) (R : RightP ⟨k, i, t, c, s, sd, q, p, al, st, en, ra, sh, cz⟩) (hl : Let w) (hp : Pow w) (hr : Row w (.slice a cz.length cap) cz.length fun i => .int .i64 ((cz.getD i 0 : Nat) : Int)) :
    Calls Tryz.prog 16 #[.agg #[.int .i64 k, .string i, .string t, .string c, .string s, .int .i64 sd, .int .i64 q, .int .i64 p, .int .i64 al, .int .i64 st, .int .i64 en, .int .i64 ra, .int .i64 sh, .slice a cz.length cap]] w (ListNew w (fieldsP ⟨k, i, t, c, s, sd, q, p, al, st, en, ra, sh, cz⟩)) := by
  have hk := R.kind
  dsimp only at hk
  rcases (show k = 1 ∨ k = 2 ∨ k = 3 ∨ k = 4 ∨ k = 5 by omega) with rfl | rfl | rfl | rfl | rfl
  · exact fields_1 i t c s sd q p al st en ra sh a cap cz w R hl hp hr
  · exact fields_2 i t c s sd q p al st en ra sh a cap cz w R hl hp hr
  · exact fields_3 i t c s sd q p al st en ra sh a cap cz w R hl hp hr
  · exact fields_4 i t c s sd q p al st en ra sh a cap cz w R hl hp hr
  · exact fields_5 i t c s sd q p al st en ra sh a cap cz w R hl hp hr
theorem forms_right {A : AskP} (R : RightP A) : formsE (fieldsP A) = (cat (fieldsP A), 0) := by
  obtain ⟨ok, l64⟩ := right_allOk R
  unfold formsE
  rw [if_neg (by omega), formsA_all _ _ ok]
  rfl
theorem row_ints {w : World} {v : Value} {L : List Nat} (h : Row w v (intsOf L).length fun i => .int .i64 ((intsOf L).getD i 0)) : Row w v L.length fun i => .int .i64 ((L.getD i 0 : Nat) : Int) := by
  rw [ints_len] at h
  refine h.same (fun i hi => ?_)
  unfold intsOf
  simp [hi]
set_option maxHeartbeats 2000000 in
theorem encode_yes (k : Int) (i t c s : ByteArray) (sd q p al st en ra sh : Int) (a : Option Addr) (cap : Nat) (L : List Nat) (w : World) (R : RightP ⟨k, i, t, c, s, sd, q, p, al, st, en, ra, sh, L⟩) (hl : Let w) (hp : Pow w) (hr : Row w (.slice a (intsOf L).length cap) (intsOf L).length fun i => .int .i64 ((intsOf L).getD i 0)) :
    Calls Tryz.prog 7 #[.agg #[.int .i64 k, .string i, .string t, .string c, .string s, .int .i64 sd, .int .i64 q, .int .i64 p, .int .i64 al, .int .i64 st, .int .i64 en, .int .i64 ra, .int .i64 sh, .slice a (intsOf L).length cap]] w fun e w' => e = .returned (.tuple #[.string (mk (cat (fieldsP ⟨k, i, t, c, s, sd, q, p, al, st, en, ra, sh, L⟩))), .int .i64 0]) ∧ Below w.heap.size w w' := by
  have FR := forms_right R
  obtain ⟨ok, l64⟩ := right_allOk R
  have B0 := boxA_below w k i t c s sd q p al st en ra sh (.slice a (intsOf L).length cap)
  have A0 := AskAt.box w k i t c s sd q p al st en ra sh (.slice a (intsOf L).length cap)
  have RI := right_any k i t c s sd q p al st en ra sh a cap (intsOf L) _ (hr.below B0)
  rw [right_to R] at RI
  have HF : Hid (∀ w1, Below w.heap.size w w1 → Calls Tryz.prog 16 #[.agg #[.int .i64 k, .string i, .string t, .string c, .string s, .int .i64 sd, .int .i64 q, .int .i64 p, .int .i64 al, .int .i64 st, .int .i64 en, .int .i64 ra, .int .i64 sh, .slice a (intsOf L).length cap]] w1 (ListNew w1 (fieldsP ⟨k, i, t, c, s, sd, q, p, al, st, en, ra, sh, L⟩))) := fun w1 b => by
    have hr1 := row_ints (hr.below b)
    rw [ints_len] at hr1 ⊢
    exact askFields_any k i t c s sd q p al st en ra sh a cap L w1 R (hl.still b) (hp.still b) hr1
  generalize fieldsP ⟨k, i, t, c, s, sd, q, p, al, st, en, ra, sh, L⟩ = F at *
  have HFR : Hid (formsE F = (cat F, 0)) := FR
  have HP : Hid (Pow w) := hp
  have H64 : Hid (F.length ≤ 64) := l64
  have HB0 : Hid (Below w.heap.size w (boxA w k i t c s sd q p al st en ra sh (.slice a (intsOf L).length cap))) := B0
  have HA0 : Hid (AskAt (boxA w k i t c s sd q p al st en ra sh (.slice a (intsOf L).length cap)) w.heap.size k i t c s sd q p al st en ra sh (.slice a (intsOf L).length cap)) := A0
  clear FR ok l64 R hl hp hr B0 A0
  generalize (intsOf L).length = n at *
  go_enter Tryz.func7, Tryz.ntmps7
  go_wp2_with fail
  refine RI.mono ?_
  rintro e w1 ⟨rfl, b1⟩
  have HB1 : Hid (Below w.heap.size w w1) := HB0.out.trans (b1.mono HB0.out.size)
  have FD := HF.out w1 HB1.out
  obtain ⟨d0, d1, d2, d3, d4, d5, d6, d7, d8, d9, d10, d11, d12, d13⟩ := HA0.out.still b1 (by simp)
  clear RI b1
  go_wp2_with fail
  refine FD.mono ?_
  rintro e w2 ⟨v, base, rfl, own, b2⟩
  have HB2 : Hid (Below w.heap.size w w2) := HB1.out.trans (b2.mono HB1.out.size)
  have FS := forms_all v F w2 (flds_of_own own) (by have := H64.out; omega) (HP.out.still HB2.out)
  rw [HFR.out] at FS
  dsimp only at FS
  clear FD own b2 d0 d1 d2 d3 d4 d5 d6 d7 d8 d9 d10 d11 d12 d13
  obtain ⟨out, HO⟩ : ∃ out, Hid (mk (cat F) = out) := ⟨_, rfl⟩
  rw [HO.out] at FS
  go_wp2_with fail
  refine FS.mono ?_
  rintro e w3 ⟨rfl, b3⟩
  go_wp2_with fail
  go_ret2
  exact ⟨by rw [HO.out]; rfl, HB2.out.trans (b3.mono HB2.out.size)⟩
set_option maxHeartbeats 2000000 in
theorem encode_no (k : Int) (i t c s : ByteArray) (sd q p al st en ra sh : Int) (a : Option Addr) (cap : Nat) (cz : List Int) (w : World) (hR : rightB k i t c s sd q p al st en ra sh cz.length (curB cz) = false) (hr : Row w (.slice a cz.length cap) cz.length fun i => .int .i64 (cz.getD i 0)) :
    Calls Tryz.prog 7 #[.agg #[.int .i64 k, .string i, .string t, .string c, .string s, .int .i64 sd, .int .i64 q, .int .i64 p, .int .i64 al, .int .i64 st, .int .i64 en, .int .i64 ra, .int .i64 sh, .slice a cz.length cap]] w fun e w' => e = .returned (.tuple #[.string ⟨#[]⟩, .int .i64 2]) ∧ Below w.heap.size w w' := by
  have B0 := boxA_below w k i t c s sd q p al st en ra sh (.slice a cz.length cap)
  have RI := right_any k i t c s sd q p al st en ra sh a cap cz _ (hr.below B0)
  rw [hR] at RI
  have HB0 : Hid (Below w.heap.size w (boxA w k i t c s sd q p al st en ra sh (.slice a cz.length cap))) := B0
  clear hr B0 hR
  generalize cz.length = n at *
  go_enter Tryz.func7, Tryz.ntmps7
  go_wp2_with fail
  refine RI.mono ?_
  rintro e w1 ⟨rfl, b1⟩
  go_wp2_with fail
  go_ret2
  exact ⟨rfl, HB0.out.trans (b1.mono HB0.out.size)⟩
end Go.Proofs.YtepkmbpadhfbmaaGreatDoor
