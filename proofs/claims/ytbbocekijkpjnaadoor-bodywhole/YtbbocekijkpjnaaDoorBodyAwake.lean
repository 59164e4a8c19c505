/-
  The chapter's examples: the program is awake.
-/
import Derived.Test.YtbbocekijkpjnaaDoorBodyRead
import Derived.Test.YtbbocekijkpjnaaDoorTagLaws
import Derived.ChangeOld
import Derived.ShutString
import Derived.ChangeMaps5
import Derived.Deep.Strs
import Derived.Lib.SmallJoins
namespace Go.Proofs.YtbbocekijkpjnaaDoor
open Go.ChangeShapes Go.WideShapes Go.ChangeAt Go.RowKit Go.Lib

theorem Frm.keep {n0 : Nat} {w w' : World} {fb bm n : Nat} {tv : Value} {tags : List Int} {L : Int → Option (ByteArray × Bool)} {at_ e : Int} {S : Nat → Prop} (h : Frm n0 w fb bm n tv tags L at_ e) (k : But S w w') (h1 : ¬ S fb) (h2 : ¬ S bm) (h3 : ∀ g, tv.ownBlock = some g → ¬ S g) : Frm n0 w' fb bm n tv tags L at_ e where
  c0 := (k.cell h.lt h1).trans h.c0
  c1 := (k.cell h.lt h1).trans h.c1
  c2 := (k.cell h.lt h1).trans h.c2
  c3 := (k.cell h.lt h1).trans h.c3
  f1 := (k.frozen h.lt h1).trans h.f1
  f2 := (k.frozen h.lt h1).trans h.f2
  f3 := (k.frozen h.lt h1).trans h.f3
  map := h.map.kept k h2
  own := own_kept h.own k h3
  lof := h.lof
  lom := h.lom
  ne := h.ne
  nf := h.nf
theorem form_of {n : Nat} {v : ByteArray} {x : List UInt8} (h1 : 1 ≤ n) (h2 : n ≤ 99999) (hv : valB v.data.toList = true) (hx : decDigits n ++ 61 :: (v.data.toList ++ [1]) = x) : formE ((n : Int), v) = (x, 0) := by
  unfold formE
  dsimp only
  rw [if_neg (by omega), hv, if_neg (by decide), show ((n : Int)).toNat = n from rfl, hx]
abbrev tD : ByteArray := ⟨#[68]⟩
abbrev t07 : ByteArray := ⟨#[48, 55]⟩
abbrev t7 : ByteArray := ⟨#[55]⟩
abbrev t1 : ByteArray := ⟨#[49]⟩
theorem f35 : formE (35, tD) = ([51, 53, 61, 68, 1], 0) := form_of (n := 35) (by omega) (by omega) (by decide +kernel) (by rw [decDigits_two (by omega) (by omega)]; rfl)
theorem f38a : formE (38, t07) = ([51, 56, 61, 48, 55, 1], 0) := form_of (n := 38) (by omega) (by omega) (by decide +kernel) (by rw [decDigits_two (by omega) (by omega)]; rfl)
theorem f38b : formE (38, t7) = ([51, 56, 61, 55, 1], 0) := form_of (n := 38) (by omega) (by omega) (by decide +kernel) (by rw [decDigits_two (by omega) (by omega)]; rfl)
theorem f54 : formE (54, t1) = ([53, 52, 61, 49, 1], 0) := form_of (n := 54) (by omega) (by omega) (by decide +kernel) (by rw [decDigits_two (by omega) (by omega)]; rfl)
theorem fields_cat {L : List Fd} (h : AllOk L) (hl : L.length ≤ 64) : fieldsL (cat L) = (L, (cat L).length, 0) := by
  unfold fieldsL
  rw [fieldsA_back L 64 [] 0 h hl]
  simp
abbrev ex1 : List Fd := [(35, tD), (38, t07)]
abbrev ex2 : List Fd := [(35, tD), (38, t7), (54, t1)]
theorem ex1_fields : fieldsL (⟨#[51, 53, 61, 68, 1, 51, 56, 61, 48, 55, 1]⟩ : ByteArray).data.toList = (ex1, 11, 0) := by
  have := fields_cat (L := ex1) (by intro f hf; simp only [ex1, List.mem_cons, List.not_mem_nil, or_false] at hf; rcases hf with rfl | rfl; rw [f35]; rw [f38a]) (by decide)
  rw [show cat ex1 = [51, 53, 61, 68, 1, 51, 56, 61, 48, 55, 1] by simp [cat, f35, f38a]] at this
  exact this
theorem ex2_fields : fieldsL (⟨#[51, 53, 61, 68, 1, 51, 56, 61, 55, 1, 53, 52, 61, 49, 1]⟩ : ByteArray).data.toList = (ex2, 15, 0) := by
  have := fields_cat (L := ex2) (by intro f hf; simp only [ex2, List.mem_cons, List.not_mem_nil, or_false] at hf; rcases hf with rfl | rfl | rfl; rw [f35]; rw [f38b]; rw [f54]) (by decide)
  rw [show cat ex2 = [51, 53, 61, 68, 1, 51, 56, 61, 55, 1, 53, 52, 61, 49, 1] by simp [cat, f35, f38b, f54]] at this
  exact this
theorem num07 : numE t07.data.toList = (0, 112) := by decide +kernel
theorem num7 : numE t7.data.toList = (7, 0) := by decide +kernel
theorem ex2_spare : spareE (updI (lookF ex2) 38 (t7, true)) (ex2.map Prod.fst) = (54, 113) := by
  rfl
set_option maxRecDepth 1000000 in
set_option maxHeartbeats 8000000 in
theorem awake11_any (w : World) :
    Calls Tryd.prog 4 #[] w fun e w' => e = .returned (.bool true) ∧ Below w.heap.size w w' := by
  have R1 := fun w => read_ok ⟨#[51, 53, 61, 68, 1, 51, 56, 61, 48, 55, 1]⟩ w (by decide) ex1 11 ex1_fields tD _ rfl (by decide) (by decide) (by decide)
  have R2 := fun w => read_ok ⟨#[51, 53, 61, 68, 1, 51, 56, 61, 55, 1, 53, 52, 61, 49, 1]⟩ w (by decide) ex2 15 ex2_fields tD _ rfl (by decide) (by decide) (by decide)
  go_enter Tryd.func4, Tryd.ntmps4
  go_wp2_with fail
  refine (R1 _).mono ?_
  rintro e w1 ⟨m0, fa, ba, va, rfl, hm0, hb1, F1⟩
  go_wp2_with fail
  refine (R2 _).mono ?_
  rintro e w2 ⟨m1, fc, bc, vc, rfl, hm1, hb2, F2⟩
  clear R1 R2
  have ka : fa < w1.heap.size := F1.lt
  have kb : ba < w1.heap.size := F1.map.lt
  have kv : ∀ g, va.ownBlock = some g → g < w1.heap.size := fun g hg => (F1.own.lt g hg).2
  have G1 := F1.still hb2
  have B2 : Below w.heap.size w w2 := hb1.trans (hb2.mono hb1.size)
  have K1 := kind_yes G1 tD true rfl
  have K2 := kind_yes F2 tD true rfl
  have I1 := int_bad G1 38 (by omega) (by omega) t07 false rfl (by decide) num07 0 9
  have HF2 : Hid (Frm m1 w2 fc bc 3 vc (ex2.map Prod.fst) (lookF ex2) 0 0) := F2
  have HB2 : Hid (Below w.heap.size w w2) := B2
  have lofa := F1.lof
  have loma := F1.lom
  have lofc := F2.lof
  have lomc := F2.lom
  have ne := F2.ne
  clear F1 G1 F2 B2 hb1 hb2
  go_wp2_with fail
  refine K1.mono ?_
  rintro e w3 ⟨rfl, rfl⟩
  clear K1
  go_wp2_with fail
  refine K2.mono ?_
  rintro e w4 ⟨rfl, rfl⟩
  clear K2
  go_wp2_with fail
  refine I1.mono ?_
  rintro e w5 ⟨rfl, F3, b5⟩
  clear I1
  have F4 := HF2.out.kept b5 (fun i h1 _ h => by rcases h with rfl | rfl <;> omega)
  have I2 := int_good F4 (by omega) 38 (by omega) (by omega) t7 false rfl (by decide) 7 num7 0 9 (by omega) (by omega)
  have HF3 : Hid (Frm m0 w5 fa ba 2 va (ex1.map Prod.fst) (lookF ex1) 38 112) := F3
  have HB5 : Hid (Below w.heap.size w w5) := HB2.out.trans (b5.below HB2.out.size (fun i h => by rcases h with rfl | rfl <;> omega))
  clear F3 F4 b5 HF2 HB2
  go_wp2_with fail
  refine I2.mono ?_
  rintro e w6 ⟨rfl, F5, b6⟩
  clear I2
  have F6 := HF3.out.keep b6 (fun h => by rcases h with h | h <;> omega) (fun h => by rcases h with h | h <;> omega) (fun g hg h => by have := kv g hg; rcases h with h | h <;> omega)
  have D1 := done_err F6 (by omega)
  have HF5 : Hid (Frm m1 w6 fc bc 4 vc (ex2.map Prod.fst) (updI (lookF ex2) 38 (t7, true)) 0 0) := F5
  have HB6 : Hid (Below w.heap.size w w6) := HB5.out.trans (b6.below HB5.out.size (fun i h => by rcases h with rfl | rfl <;> omega))
  clear F5 F6 b6 HB5 HF3
  go_wp2_with fail
  refine D1.mono ?_
  rintro e w7 ⟨rfl, b7⟩
  clear D1
  have F7 := HF5.out.still b7
  have D2 := done_ok F7 (by decide)
  rw [ex2_spare] at D2
  dsimp only at D2
  have HB7 : Hid (Below w.heap.size w w7) := HB6.out.trans (b7.mono HB6.out.size)
  clear F7 HF5 HB6 b7
  go_wp2_with fail
  refine D2.mono ?_
  rintro e w8 ⟨rfl, rfl⟩
  clear D2
  go_wp2_with fail
  go_ret
  exact ⟨rfl, HB7.out⟩
end Go.Proofs.YtbbocekijkpjnaaDoor
