/-
  The walk of post's throughOrder with the functions that right hands on, a theorem a kind.
-/
import Derived.Test.YtlgnbnojjfgfmaaPostRtO
import Derived.Deep.RegionHeld3
namespace Go.Proofs.Ytlgnbnojjfgfmaa.PP.O
open Go.ChangeShapes Go.WideShapes Go.ChangeAt Go.RowKit Go.Lib

set_option maxRecDepth 100000 in
set_option maxHeartbeats 4000000 in
theorem thrRight_1 {W w : World} {b cb : Nat} {r : Bool} {t : ThP} (H0 : Hid (RV W (w.alloc (.cells #[.func (.func 41) #[] #[.pointer (some ⟨cb, 0, none⟩)], .func (.func 43) #[] #[.pointer (some ⟨cb, 0, none⟩)], .func (.func 44) #[] #[]] 77)) b cb w.heap.size 1 r t)) :
    Calls Try.prog 35 #[.pointer (some ⟨b, 0, none⟩), .agg #[.func (.func 41) #[] #[.pointer (some ⟨cb, 0, none⟩)], .func (.func 43) #[] #[.pointer (some ⟨cb, 0, none⟩)], .func (.func 44) #[] #[]]] w fun e w' => e = .returned (.tuple #[]) ∧ RV W w' b cb w.heap.size 1 (rgt (rlist 1) r t).1 (rgt (rlist 1) r t).2 := by
  go_enter Try.func35, Try.ntmps35
  have c0 := H0.out.kind
  have F1 := H0.out.num ⟨34, false, 1, 1, 1099511627776⟩ (by decide) (by decide) rfl rfl
  dsimp only at F1
  go_wp2_with fail
  go_region_held3 (fun w' => w'.cell? ⟨w.heap.size, 0, none⟩ = some (.func (.func 41) #[] #[.pointer (some ⟨cb, 0, none⟩)]) ∧ w'.cell? ⟨w.heap.size, 1, none⟩ = some (.func (.func 43) #[] #[.pointer (some ⟨cb, 0, none⟩)]) ∧ w'.cell? ⟨w.heap.size, 2, none⟩ = some (.func (.func 44) #[] #[])) (go_keep) ((go_at_call 43; refine F1.mono ?_; rintro e w1 ⟨rfl, h1⟩; have H1 : Hid (RV W w1 b cb w.heap.size _ _ _ ) := h1; have c1 := h1.kind; have x1 := h1.v0; have y1 := h1.v1; have z1 := h1.v2; clear h1 F1))
  have F2 := H1.out.name ⟨11, true, 2, 0, 0⟩ (by decide) (by decide) rfl rfl
  dsimp only at F2
  go_wp2_with fail
  go_region_held3 (fun w' => w'.cell? ⟨w.heap.size, 0, none⟩ = some (.func (.func 41) #[] #[.pointer (some ⟨cb, 0, none⟩)]) ∧ w'.cell? ⟨w.heap.size, 1, none⟩ = some (.func (.func 43) #[] #[.pointer (some ⟨cb, 0, none⟩)]) ∧ w'.cell? ⟨w.heap.size, 2, none⟩ = some (.func (.func 44) #[] #[])) (go_keep) ((go_at_call 41; refine F2.mono ?_; rintro e w2 ⟨rfl, h2⟩; have H2 : Hid (RV W w2 b cb w.heap.size _ _ _ ) := h2; have c2 := h2.kind; have x2 := h2.v0; have y2 := h2.v1; have z2 := h2.v2; clear h2 F2))
  have F3 := H2.out.name ⟨55, true, 3, 0, 0⟩ (by decide) (by decide) rfl rfl
  dsimp only at F3
  go_wp2_with fail
  go_region_held3 (fun w' => w'.cell? ⟨w.heap.size, 0, none⟩ = some (.func (.func 41) #[] #[.pointer (some ⟨cb, 0, none⟩)]) ∧ w'.cell? ⟨w.heap.size, 1, none⟩ = some (.func (.func 43) #[] #[.pointer (some ⟨cb, 0, none⟩)]) ∧ w'.cell? ⟨w.heap.size, 2, none⟩ = some (.func (.func 44) #[] #[])) (go_keep) ((go_at_call 41; refine F3.mono ?_; rintro e w3 ⟨rfl, h3⟩; have H3 : Hid (RV W w3 b cb w.heap.size _ _ _ ) := h3; have c3 := h3.kind; have x3 := h3.v0; have y3 := h3.v1; have z3 := h3.v2; clear h3 F3))
  have F4 := H3.out.num ⟨54, false, 4, 1, 2⟩ (by decide) (by decide) rfl rfl
  dsimp only at F4
  go_wp2_with fail
  go_region_held3 (fun w' => w'.cell? ⟨w.heap.size, 0, none⟩ = some (.func (.func 41) #[] #[.pointer (some ⟨cb, 0, none⟩)]) ∧ w'.cell? ⟨w.heap.size, 1, none⟩ = some (.func (.func 43) #[] #[.pointer (some ⟨cb, 0, none⟩)]) ∧ w'.cell? ⟨w.heap.size, 2, none⟩ = some (.func (.func 44) #[] #[])) (go_keep) ((go_at_call 43; refine F4.mono ?_; rintro e w4 ⟨rfl, h4⟩; have H4 : Hid (RV W w4 b cb w.heap.size _ _ _ ) := h4; have c4 := h4.kind; have x4 := h4.v0; have y4 := h4.v1; have z4 := h4.v2; clear h4 F4))
  have F5 := H4.out.num ⟨38, false, 5, 1, 1099511627776⟩ (by decide) (by decide) rfl rfl
  dsimp only at F5
  go_wp2_with fail
  go_region_held3 (fun w' => w'.cell? ⟨w.heap.size, 0, none⟩ = some (.func (.func 41) #[] #[.pointer (some ⟨cb, 0, none⟩)]) ∧ w'.cell? ⟨w.heap.size, 1, none⟩ = some (.func (.func 43) #[] #[.pointer (some ⟨cb, 0, none⟩)]) ∧ w'.cell? ⟨w.heap.size, 2, none⟩ = some (.func (.func 44) #[] #[])) (go_keep) ((go_at_call 43; refine F5.mono ?_; rintro e w5 ⟨rfl, h5⟩; have H5 : Hid (RV W w5 b cb w.heap.size _ _ _ ) := h5; have c5 := h5.kind; have x5 := h5.v0; have y5 := h5.v1; have z5 := h5.v2; clear h5 F5))
  have F6 := H5.out.num ⟨44, false, 6, 1, 1099511627776⟩ (by decide) (by decide) rfl rfl
  dsimp only at F6
  go_wp2_with fail
  go_region_held3 (fun w' => w'.cell? ⟨w.heap.size, 0, none⟩ = some (.func (.func 41) #[] #[.pointer (some ⟨cb, 0, none⟩)]) ∧ w'.cell? ⟨w.heap.size, 1, none⟩ = some (.func (.func 43) #[] #[.pointer (some ⟨cb, 0, none⟩)]) ∧ w'.cell? ⟨w.heap.size, 2, none⟩ = some (.func (.func 44) #[] #[])) (go_keep) ((go_at_call 43; refine F6.mono ?_; rintro e w6 ⟨rfl, h6⟩; have H6 : Hid (RV W w6 b cb w.heap.size _ _ _ ) := h6; have c6 := h6.kind; have x6 := h6.v0; have y6 := h6.v1; have z6 := h6.v2; clear h6 F6))
  go_wp2_with fail
  go_end0
  exact ⟨rfl, H6.out⟩
set_option maxRecDepth 100000 in
set_option maxHeartbeats 4000000 in
theorem thrRight_2 {W w : World} {b cb : Nat} {r : Bool} {t : ThP} (H0 : Hid (RV W (w.alloc (.cells #[.func (.func 41) #[] #[.pointer (some ⟨cb, 0, none⟩)], .func (.func 43) #[] #[.pointer (some ⟨cb, 0, none⟩)], .func (.func 44) #[] #[]] 77)) b cb w.heap.size 2 r t)) :
    Calls Try.prog 35 #[.pointer (some ⟨b, 0, none⟩), .agg #[.func (.func 41) #[] #[.pointer (some ⟨cb, 0, none⟩)], .func (.func 43) #[] #[.pointer (some ⟨cb, 0, none⟩)], .func (.func 44) #[] #[]]] w fun e w' => e = .returned (.tuple #[]) ∧ RV W w' b cb w.heap.size 2 (rgt (rlist 2) r t).1 (rgt (rlist 2) r t).2 := by
  go_enter Try.func35, Try.ntmps35
  have c0 := H0.out.kind
  have F1 := H0.out.num ⟨34, false, 1, 1, 1099511627776⟩ (by decide) (by decide) rfl rfl
  dsimp only at F1
  go_wp2_with fail
  go_region_held3 (fun w' => w'.cell? ⟨w.heap.size, 0, none⟩ = some (.func (.func 41) #[] #[.pointer (some ⟨cb, 0, none⟩)]) ∧ w'.cell? ⟨w.heap.size, 1, none⟩ = some (.func (.func 43) #[] #[.pointer (some ⟨cb, 0, none⟩)]) ∧ w'.cell? ⟨w.heap.size, 2, none⟩ = some (.func (.func 44) #[] #[])) (go_keep) ((go_at_call 43; refine F1.mono ?_; rintro e w1 ⟨rfl, h1⟩; have H1 : Hid (RV W w1 b cb w.heap.size _ _ _ ) := h1; have c1 := h1.kind; have x1 := h1.v0; have y1 := h1.v1; have z1 := h1.v2; clear h1 F1))
  have F2 := H1.out.name ⟨11, true, 2, 0, 0⟩ (by decide) (by decide) rfl rfl
  dsimp only at F2
  go_wp2_with fail
  go_region_held3 (fun w' => w'.cell? ⟨w.heap.size, 0, none⟩ = some (.func (.func 41) #[] #[.pointer (some ⟨cb, 0, none⟩)]) ∧ w'.cell? ⟨w.heap.size, 1, none⟩ = some (.func (.func 43) #[] #[.pointer (some ⟨cb, 0, none⟩)]) ∧ w'.cell? ⟨w.heap.size, 2, none⟩ = some (.func (.func 44) #[] #[])) (go_keep) ((go_at_call 41; refine F2.mono ?_; rintro e w2 ⟨rfl, h2⟩; have H2 : Hid (RV W w2 b cb w.heap.size _ _ _ ) := h2; have c2 := h2.kind; have x2 := h2.v0; have y2 := h2.v1; have z2 := h2.v2; clear h2 F2))
  go_wp2_with fail
  go_end0
  exact ⟨rfl, H2.out⟩
set_option maxRecDepth 100000 in
set_option maxHeartbeats 4000000 in
theorem thrRight_3 {W w : World} {b cb : Nat} {r : Bool} {t : ThP} (H0 : Hid (RV W (w.alloc (.cells #[.func (.func 41) #[] #[.pointer (some ⟨cb, 0, none⟩)], .func (.func 43) #[] #[.pointer (some ⟨cb, 0, none⟩)], .func (.func 44) #[] #[]] 77)) b cb w.heap.size 3 r t)) :
    Calls Try.prog 35 #[.pointer (some ⟨b, 0, none⟩), .agg #[.func (.func 41) #[] #[.pointer (some ⟨cb, 0, none⟩)], .func (.func 43) #[] #[.pointer (some ⟨cb, 0, none⟩)], .func (.func 44) #[] #[]]] w fun e w' => e = .returned (.tuple #[]) ∧ RV W w' b cb w.heap.size 3 (rgt (rlist 3) r t).1 (rgt (rlist 3) r t).2 := by
  go_enter Try.func35, Try.ntmps35
  have c0 := H0.out.kind
  have F1 := H0.out.num ⟨34, false, 1, 1, 1099511627776⟩ (by decide) (by decide) rfl rfl
  dsimp only at F1
  go_wp2_with fail
  go_region_held3 (fun w' => w'.cell? ⟨w.heap.size, 0, none⟩ = some (.func (.func 41) #[] #[.pointer (some ⟨cb, 0, none⟩)]) ∧ w'.cell? ⟨w.heap.size, 1, none⟩ = some (.func (.func 43) #[] #[.pointer (some ⟨cb, 0, none⟩)]) ∧ w'.cell? ⟨w.heap.size, 2, none⟩ = some (.func (.func 44) #[] #[])) (go_keep) ((go_at_call 43; refine F1.mono ?_; rintro e w1 ⟨rfl, h1⟩; have H1 : Hid (RV W w1 b cb w.heap.size _ _ _ ) := h1; have c1 := h1.kind; have x1 := h1.v0; have y1 := h1.v1; have z1 := h1.v2; clear h1 F1))
  have F2 := H1.out.name ⟨11, true, 2, 0, 0⟩ (by decide) (by decide) rfl rfl
  dsimp only at F2
  go_wp2_with fail
  go_region_held3 (fun w' => w'.cell? ⟨w.heap.size, 0, none⟩ = some (.func (.func 41) #[] #[.pointer (some ⟨cb, 0, none⟩)]) ∧ w'.cell? ⟨w.heap.size, 1, none⟩ = some (.func (.func 43) #[] #[.pointer (some ⟨cb, 0, none⟩)]) ∧ w'.cell? ⟨w.heap.size, 2, none⟩ = some (.func (.func 44) #[] #[])) (go_keep) ((go_at_call 41; refine F2.mono ?_; rintro e w2 ⟨rfl, h2⟩; have H2 : Hid (RV W w2 b cb w.heap.size _ _ _ ) := h2; have c2 := h2.kind; have x2 := h2.v0; have y2 := h2.v1; have z2 := h2.v2; clear h2 F2))
  have F3 := H2.out.num ⟨38, false, 5, 1, 1099511627776⟩ (by decide) (by decide) rfl rfl
  dsimp only at F3
  go_wp2_with fail
  go_region_held3 (fun w' => w'.cell? ⟨w.heap.size, 0, none⟩ = some (.func (.func 41) #[] #[.pointer (some ⟨cb, 0, none⟩)]) ∧ w'.cell? ⟨w.heap.size, 1, none⟩ = some (.func (.func 43) #[] #[.pointer (some ⟨cb, 0, none⟩)]) ∧ w'.cell? ⟨w.heap.size, 2, none⟩ = some (.func (.func 44) #[] #[])) (go_keep) ((go_at_call 43; refine F3.mono ?_; rintro e w3 ⟨rfl, h3⟩; have H3 : Hid (RV W w3 b cb w.heap.size _ _ _ ) := h3; have c3 := h3.kind; have x3 := h3.v0; have y3 := h3.v1; have z3 := h3.v2; clear h3 F3))
  have F4 := H3.out.num ⟨44, false, 6, 1, 1099511627776⟩ (by decide) (by decide) rfl rfl
  dsimp only at F4
  go_wp2_with fail
  go_region_held3 (fun w' => w'.cell? ⟨w.heap.size, 0, none⟩ = some (.func (.func 41) #[] #[.pointer (some ⟨cb, 0, none⟩)]) ∧ w'.cell? ⟨w.heap.size, 1, none⟩ = some (.func (.func 43) #[] #[.pointer (some ⟨cb, 0, none⟩)]) ∧ w'.cell? ⟨w.heap.size, 2, none⟩ = some (.func (.func 44) #[] #[])) (go_keep) ((go_at_call 43; refine F4.mono ?_; rintro e w4 ⟨rfl, h4⟩; have H4 : Hid (RV W w4 b cb w.heap.size _ _ _ ) := h4; have c4 := h4.kind; have x4 := h4.v0; have y4 := h4.v1; have z4 := h4.v2; clear h4 F4))
  go_wp2_with fail
  go_end0
  exact ⟨rfl, H4.out⟩
end Go.Proofs.Ytlgnbnojjfgfmaa.PP.O
