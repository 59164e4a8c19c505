/-
  The statements' awake: the chapter's example holds.
-/
import Derived.Test.YtkkimkhkoiempaaChNew
import Derived.Test.YtkkimkhkoiempaaChStatus
namespace Go.Proofs.Ytkkimkhkoiempaa.CH
open Go.ChangeShapes Go.WideShapes Go.ChangeAt Go.RowKit Go.Lib MA

def aw0 : Ch := newC ⟨#[99]⟩ ⟨#[86]⟩ 1 10 99
def aw1 : Ch := trC aw0 4
def aw2 : Ch := hpC aw1 1 0 0
def aw3 : Ch := rpC aw2 20 98
def aw4 : Ch := trC aw3 7
def aw5 : Ch := hpC aw4 8 0 0
theorem awk0 : nwE ⟨#[99]⟩ ⟨#[86]⟩ 1 10 99 = 0 := by decide +kernel
theorem awk1 : trE aw0 4 = 0 := by decide +kernel
theorem awk2 : clm aw1 = 6 := by decide +kernel
theorem awk3 : hpE aw1 1 0 0 = 0 := by decide +kernel
theorem awk4 : rpE aw2 20 98 = 0 := by decide +kernel
theorem awk5 : clm aw3 = 16 := by decide +kernel
theorem awk6 : trE aw3 7 = 0 := by decide +kernel
theorem awk7 : hpE aw4 8 0 0 = 0 := by decide +kernel
theorem awk8 : aw5.st = 6 := by decide +kernel
theorem awk9 : clm aw5 = 0 := by decide +kernel
set_option maxRecDepth 100000 in
set_option maxHeartbeats 8000000 in
theorem awake_any (w : World) : Calls Try.prog 6 #[] w fun e w' => e = .returned (.bool true) ∧ Below w.heap.size w w' := by
  have F0 := new_any ⟨#[99]⟩ ⟨#[86]⟩ 1 10 99 w
  obtain ⟨P, hP⟩ : ∃ P, Hid (w.heap.size = P) := ⟨_, rfl⟩
  have LP : Hid (P ≤ w.heap.size) := by rw [hP.out]; exact Nat.le_refl _
  rw [hP.out]
  go_enter Try.func6, Try.ntmps6
  go_wp2_with fail
  refine F0.mono ?_
  rintro e w1 ⟨_, hk⟩
  obtain ⟨n, rfl, K, ln, hb⟩ := hk awk0
  have HB : Hid (Below P w w1) := by rw [← hP.out]; exact hb
  have LN : Hid (P ≤ n) := by rw [← hP.out]; exact ln
  have K : ChAt w1 n aw0 := K
  clear F0 hk hb ln hP
  have G := trade_yes K 4
  rw [awk1] at G
  go_wp2_with fail
  refine G.mono ?_
  rintro e w2 ⟨rfl, K', k⟩
  have HB' : Hid (Below P w w2) := HB.out.trans (k.below (Nat.le_trans LP.out HB.out.size) (fun i hi => by have : i = n := hi; have := LN.out; omega))
  clear HB K G k
  have HB := HB'
  have K : ChAt w2 n aw1 := K'
  clear HB' K'
  have G := claim_yes K
  rw [awk2] at G
  go_wp2_with fail
  refine G.mono ?_
  rintro e w3 ⟨rfl, m, hm⟩
  have hb : Below w2.heap.size w2 w3 := by rw [hm]; exact below_drewN _ m _
  have HB' : Hid (Below P w w3) := HB.out.trans (hb.mono (Nat.le_trans LP.out HB.out.size))
  have K' := K.below hb
  clear HB K G hm hb
  have HB := HB'
  have K := K'
  clear HB' K'
  have G := ack_yes K
  rw [awk3] at G
  go_wp2_with fail
  refine G.mono ?_
  rintro e w4 ⟨rfl, K', k⟩
  have HB' : Hid (Below P w w4) := HB.out.trans (k.below (Nat.le_trans LP.out HB.out.size) (fun i hi => by have : i = n := hi; have := LN.out; omega))
  clear HB K G k
  have HB := HB'
  have K : ChAt w4 n aw2 := K'
  clear HB' K'
  have G := replace_yes K 20 98
  rw [awk4] at G
  go_wp2_with fail
  refine G.mono ?_
  rintro e w5 ⟨rfl, K', k⟩
  have HB' : Hid (Below P w w5) := HB.out.trans (k.below (Nat.le_trans LP.out HB.out.size) (fun i hi => by have : i = n := hi; have := LN.out; omega))
  clear HB K G k
  have HB := HB'
  have K : ChAt w5 n aw3 := K'
  clear HB' K'
  have G := claim_yes K
  rw [awk5] at G
  go_wp2_with fail
  refine G.mono ?_
  rintro e w6 ⟨rfl, m, hm⟩
  have hb : Below w5.heap.size w5 w6 := by rw [hm]; exact below_drewN _ m _
  have HB' : Hid (Below P w w6) := HB.out.trans (hb.mono (Nat.le_trans LP.out HB.out.size))
  have K' := K.below hb
  clear HB K G hm hb
  have HB := HB'
  have K := K'
  clear HB' K'
  have G := trade_yes K 7
  rw [awk6] at G
  go_wp2_with fail
  refine G.mono ?_
  rintro e w7 ⟨rfl, K', k⟩
  have HB' : Hid (Below P w w7) := HB.out.trans (k.below (Nat.le_trans LP.out HB.out.size) (fun i hi => by have : i = n := hi; have := LN.out; omega))
  clear HB K G k
  have HB := HB'
  have K : ChAt w7 n aw4 := K'
  clear HB' K'
  have G := refused_yes K
  rw [awk7] at G
  go_wp2_with fail
  refine G.mono ?_
  rintro e w8 ⟨rfl, K', k⟩
  have HB' : Hid (Below P w w8) := HB.out.trans (k.below (Nat.le_trans LP.out HB.out.size) (fun i hi => by have : i = n := hi; have := LN.out; omega))
  clear HB K G k
  have HB := HB'
  have K : ChAt w8 n aw5 := K'
  clear HB' K'
  have G := status_yes K
  have e8 := awk8
  obtain ⟨z, hz⟩ : ∃ z, z = aw5 := ⟨_, rfl⟩
  rw [← hz] at G e8
  clear hz
  obtain ⟨zi, zv, zd, zs, zq, zp, zn, zm, zc⟩ := z
  simp only at e8
  subst e8
  generalize clm _ = mm at G
  simp only [sV] at G
  have hfd : ∀ W, Sem.run Try.prog (Instr.field 39 (.agg #[.string zi, .string zv, .int .i64 zd, .int .i64 6, .int .i64 zq, .int .i64 zp, .int .i64 zn, .int .i64 zm, .int .i64 zc, .int .i64 mm]) 3) W = .ok (.int .i64 6) W := fun W => by kernel_rfl
  go_wp2_with fail
  refine G.mono ?_
  rintro e w9 ⟨rfl, hb⟩
  have HB' : Hid (Below P w w9) := HB.out.trans (hb.mono (Nat.le_trans LP.out HB.out.size))
  have K' := K.below hb
  clear HB K G hb
  have HB := HB'
  have K := K'
  clear HB' K'
  have G := claim_yes K
  rw [awk9] at G
  go_wp2_with fail
  refine G.mono ?_
  rintro e w10 ⟨rfl, m, hm⟩
  have HB' : Hid (Below P w w10) := by rw [hm]; exact below_more HB.out m
  clear hm
  go_wp2_with fail
  go_ret
  exact ⟨rfl, HB'.out⟩
end Go.Proofs.Ytkkimkhkoiempaa.CH
