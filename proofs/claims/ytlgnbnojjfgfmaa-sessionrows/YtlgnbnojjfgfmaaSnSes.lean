/-
  Contracts of session's isMade, Waiting, Sent, Taken, Faults, Healthy, Fault, Down, Up, Take, New, Pop.
-/
import Derived.Test.YtlgnbnojjfgfmaaSnMath
namespace Go.Proofs.Ytlgnbnojjfgfmaa.SN
open Go.ChangeShapes Go.WideShapes Go.ChangeAt Go.RowKit Go.Lib

theorem isMade_yes {w : World} {p : Nat} (h : w.cell? ⟨p, 1, none⟩ = some (.bool true)) : Calls Try.prog 25 #[.pointer (some ⟨p, 0, none⟩)] w fun e w' => e = .returned (.bool true) ∧ w = w' := by
  go_enter Try.func25, Try.ntmps25
  go_wp2
  go_ret
  exact ⟨by simp, rfl⟩
theorem isMade_no {w : World} {v : Value} (h : NoSes w v) : Calls Try.prog 25 #[v] w fun e w' => e = .returned (.bool false) ∧ w = w' := by
  rcases h with rfl | ⟨b, rfl, h⟩
  · go_enter Try.func25, Try.ntmps25
    go_wp2
    go_ret
    exact ⟨rfl, rfl⟩
  · go_enter Try.func25, Try.ntmps25
    go_wp2
    go_ret
    exact ⟨by simp, rfl⟩
theorem waiting_any {w : World} {p r C f : Nat} {S : Option Addr} {x : Ss} (h : SesAt w p r S C f x) : Calls Try.prog 10 #[.pointer (some ⟨p, 0, none⟩)] w fun e w' => e = .returned (.int .i64 ((x.sn - x.out : Nat) : Int)) ∧ w = w' := by
  have F1 := isMade_yes h.six.c1
  have F2 := len_any h.rng
  have c0 := h.six.c0
  clear h
  go_enter Try.func10, Try.ntmps10
  go_wp2_with fail
  refine F1.mono ?_
  rintro e w1 ⟨rfl, rfl⟩
  go_wp2_with fail
  refine F2.mono ?_
  rintro e w1 ⟨rfl, rfl⟩
  go_wp2_with fail
  go_ret
  exact ⟨rfl, rfl⟩
theorem sent_any {w : World} {p r C f : Nat} {S : Option Addr} {x : Ss} (h : SesAt w p r S C f x) : Calls Try.prog 11 #[.pointer (some ⟨p, 0, none⟩)] w fun e w' => e = .returned (.int .i64 (x.sn : Int)) ∧ w = w' := by
  have F1 := isMade_yes h.six.c1
  have c0 := h.six.c2
  clear h
  go_enter Try.func11, Try.ntmps11
  go_wp2_with fail
  refine F1.mono ?_
  rintro e w1 ⟨rfl, rfl⟩
  go_wp2_with fail
  go_ret
  exact ⟨rfl, rfl⟩
theorem taken_any {w : World} {p r C f : Nat} {S : Option Addr} {x : Ss} (h : SesAt w p r S C f x) : Calls Try.prog 12 #[.pointer (some ⟨p, 0, none⟩)] w fun e w' => e = .returned (.int .i64 (x.tk : Int)) ∧ w = w' := by
  have F1 := isMade_yes h.six.c1
  have c0 := h.six.c3
  clear h
  go_enter Try.func12, Try.ntmps12
  go_wp2_with fail
  refine F1.mono ?_
  rintro e w1 ⟨rfl, rfl⟩
  go_wp2_with fail
  go_ret
  exact ⟨rfl, rfl⟩
theorem faults_any {w : World} {p r C f : Nat} {S : Option Addr} {x : Ss} (h : SesAt w p r S C f x) : Calls Try.prog 13 #[.pointer (some ⟨p, 0, none⟩)] w fun e w' => e = .returned (.int .i64 (x.fa : Int)) ∧ w = w' := by
  have F1 := isMade_yes h.six.c1
  have c0 := h.six.c4
  clear h
  go_enter Try.func13, Try.ntmps13
  go_wp2_with fail
  refine F1.mono ?_
  rintro e w1 ⟨rfl, rfl⟩
  go_wp2_with fail
  go_ret
  exact ⟨rfl, rfl⟩
theorem waitingN {w : World} {v : Value} (h : NoSes w v) : Calls Try.prog 10 #[v] w fun e w' => e = .returned (.int .i64 0) ∧ w = w' := by
  have F1 := isMade_no h
  clear h
  go_enter Try.func10, Try.ntmps10
  go_wp2_with fail
  refine F1.mono ?_
  rintro e w1 ⟨rfl, rfl⟩
  go_wp2_with fail
  go_ret
  exact ⟨rfl, rfl⟩
theorem sentN {w : World} {v : Value} (h : NoSes w v) : Calls Try.prog 11 #[v] w fun e w' => e = .returned (.int .i64 0) ∧ w = w' := by
  have F1 := isMade_no h
  clear h
  go_enter Try.func11, Try.ntmps11
  go_wp2_with fail
  refine F1.mono ?_
  rintro e w1 ⟨rfl, rfl⟩
  go_wp2_with fail
  go_ret
  exact ⟨rfl, rfl⟩
theorem takenN {w : World} {v : Value} (h : NoSes w v) : Calls Try.prog 12 #[v] w fun e w' => e = .returned (.int .i64 0) ∧ w = w' := by
  have F1 := isMade_no h
  clear h
  go_enter Try.func12, Try.ntmps12
  go_wp2_with fail
  refine F1.mono ?_
  rintro e w1 ⟨rfl, rfl⟩
  go_wp2_with fail
  go_ret
  exact ⟨rfl, rfl⟩
theorem faultsN {w : World} {v : Value} (h : NoSes w v) : Calls Try.prog 13 #[v] w fun e w' => e = .returned (.int .i64 0) ∧ w = w' := by
  have F1 := isMade_no h
  clear h
  go_enter Try.func13, Try.ntmps13
  go_wp2_with fail
  refine F1.mono ?_
  rintro e w1 ⟨rfl, rfl⟩
  go_wp2_with fail
  go_ret
  exact ⟨rfl, rfl⟩
theorem healthy_any {w : World} {p r C f : Nat} {S : Option Addr} {x : Ss} (h : SesAt w p r S C f x) : Calls Try.prog 14 #[.pointer (some ⟨p, 0, none⟩)] w fun e w' => e = .returned (.bool (hlB x)) ∧ w = w' := by
  have F1 := isMade_yes h.six.c1
  have c4 := h.six.c4
  have c5 := h.six.c5
  clear h
  unfold hlB
  obtain ⟨room, sn, out, tk, fa, dn, L⟩ := x
  simp only at c4 c5 ⊢
  cases dn
  · by_cases hz : fa = 0
    · subst hz
      go_enter Try.func14, Try.ntmps14
      go_wp2_with fail
      refine F1.mono ?_
      rintro e w1 ⟨rfl, rfl⟩
      go_wp2_with fail
      go_ret
      exact ⟨rfl, rfl⟩
    · rw [decide_eq_false hz]
      have hz' : ¬ (fa : Int) = 0 := by omega
      have hzb : ((fa : Int) == 0) = false := beq_false_of_ne hz'
      go_enter Try.func14, Try.ntmps14
      go_wp2_with fail
      refine F1.mono ?_
      rintro e w1 ⟨rfl, rfl⟩
      go_wp2_with fail
      go_ret
      exact ⟨by simp, rfl⟩
  · go_enter Try.func14, Try.ntmps14
    go_wp2_with fail
    refine F1.mono ?_
    rintro e w1 ⟨rfl, rfl⟩
    go_wp2_with fail
    go_ret
    exact ⟨rfl, rfl⟩
theorem healthyN {w : World} {v : Value} (h : NoSes w v) : Calls Try.prog 14 #[v] w fun e w' => e = .returned (.bool false) ∧ w = w' := by
  have F1 := isMade_no h
  clear h
  go_enter Try.func14, Try.ntmps14
  go_wp2_with fail
  refine F1.mono ?_
  rintro e w1 ⟨rfl, rfl⟩
  go_wp2_with fail
  go_ret
  exact ⟨rfl, rfl⟩
theorem fault_any {w : World} {p r C f : Nat} {S : Option Addr} {x : Ss} (h : SesAt w p r S C f x) (hf : x.fa ≤ 4096) : Calls Try.prog 17 #[.pointer (some ⟨p, 0, none⟩)] w fun e w' => e = .returned (.tuple #[]) ∧ SesOk w w' p r S (faX x) := by
  have F1 := isMade_yes h.six.c1
  have c4 := h.six.c4
  have f4 := h.six.thaw 4
  have HR : Hid (SesOk w (w.setCell ⟨p, 4, none⟩ (.int .i64 ((x.fa : Int) + 1))) p r S (faX x)) := h.wrote h.six.set4 ((But.refl _ w).setCell p 4 _ (fun _ => rfl)) rfl rfl rfl rfl
  have t : (x.fa : Int) ≤ 4096 := by omega
  clear h hf
  go_enter Try.func17, Try.ntmps17
  go_wp2_with fail
  refine F1.mono ?_
  rintro e w1 ⟨rfl, rfl⟩
  go_wp2_with fail
  go_end0
  exact ⟨rfl, HR.out⟩
theorem faultN {w : World} {v : Value} (h : NoSes w v) : Calls Try.prog 17 #[v] w fun e w' => e = .returned (.tuple #[]) ∧ w = w' := by
  have F1 := isMade_no h
  clear h
  go_enter Try.func17, Try.ntmps17
  go_wp2_with fail
  refine F1.mono ?_
  rintro e w1 ⟨rfl, rfl⟩
  go_wp2_with fail
  go_end0
  exact ⟨rfl, rfl⟩
theorem setDown_any {w : World} {p r C f : Nat} {S : Option Addr} {x : Ss} (h : SesAt w p r S C f x) (b : Bool) : Calls Try.prog 30 #[.pointer (some ⟨p, 0, none⟩), .bool b] w fun e w' => e = .returned (.tuple #[]) ∧ SesOk w w' p r S (dnX x b) := by
  have F1 := isMade_yes h.six.c1
  have c5 := h.six.c5
  have f5 := h.six.thaw 5
  have HR : Hid (SesOk w (w.setCell ⟨p, 5, none⟩ (.bool b)) p r S (dnX x b)) := h.wrote (h.six.set5 b) ((But.refl _ w).setCell p 5 _ (fun _ => rfl)) rfl rfl rfl rfl
  clear h
  go_enter Try.func30, Try.ntmps30
  go_wp2_with fail
  refine F1.mono ?_
  rintro e w1 ⟨rfl, rfl⟩
  go_wp2_with fail
  go_end0
  exact ⟨rfl, HR.out⟩
theorem setDownN {w : World} {v : Value} (h : NoSes w v) (b : Bool) : Calls Try.prog 30 #[v, .bool b] w fun e w' => e = .returned (.tuple #[]) ∧ w = w' := by
  have F1 := isMade_no h
  clear h
  go_enter Try.func30, Try.ntmps30
  go_wp2_with fail
  refine F1.mono ?_
  rintro e w1 ⟨rfl, rfl⟩
  go_wp2_with fail
  go_end0
  exact ⟨rfl, rfl⟩
theorem down_any {w : World} {p r C f : Nat} {S : Option Addr} {x : Ss} (h : SesAt w p r S C f x) : Calls Try.prog 18 #[.pointer (some ⟨p, 0, none⟩)] w fun e w' => e = .returned (.tuple #[]) ∧ SesOk w w' p r S (dnX x true) := by
  have F1 := setDown_any h true
  clear h
  go_enter Try.func18, Try.ntmps18
  go_wp2_with fail
  refine F1.mono ?_
  rintro e w1 ⟨rfl, h⟩
  have HR : Hid (SesOk w w1 p r S (dnX x true)) := h
  clear h F1
  go_wp2_with fail
  go_end0
  exact ⟨rfl, HR.out⟩
theorem downN {w : World} {v : Value} (h : NoSes w v) : Calls Try.prog 18 #[v] w fun e w' => e = .returned (.tuple #[]) ∧ w = w' := by
  have F1 := setDownN h true
  clear h
  go_enter Try.func18, Try.ntmps18
  go_wp2_with fail
  refine F1.mono ?_
  rintro e w1 ⟨rfl, rfl⟩
  go_wp2_with fail
  go_end0
  exact ⟨rfl, rfl⟩
theorem up_any {w : World} {p r C f : Nat} {S : Option Addr} {x : Ss} (h : SesAt w p r S C f x) : Calls Try.prog 19 #[.pointer (some ⟨p, 0, none⟩)] w fun e w' => e = .returned (.tuple #[]) ∧ SesOk w w' p r S (dnX x false) := by
  have F1 := setDown_any h false
  clear h
  go_enter Try.func19, Try.ntmps19
  go_wp2_with fail
  refine F1.mono ?_
  rintro e w1 ⟨rfl, h⟩
  have HR : Hid (SesOk w w1 p r S (dnX x false)) := h
  clear h F1
  go_wp2_with fail
  go_end0
  exact ⟨rfl, HR.out⟩
theorem upN {w : World} {v : Value} (h : NoSes w v) : Calls Try.prog 19 #[v] w fun e w' => e = .returned (.tuple #[]) ∧ w = w' := by
  have F1 := setDownN h false
  clear h
  go_enter Try.func19, Try.ntmps19
  go_wp2_with fail
  refine F1.mono ?_
  rintro e w1 ⟨rfl, rfl⟩
  go_wp2_with fail
  go_end0
  exact ⟨rfl, rfl⟩
set_option maxRecDepth 100000 in
set_option maxHeartbeats 4000000 in
theorem take_any {w : World} {p r C f : Nat} {S : Option Addr} {x : Ss} (h : SesAt w p r S C f x) (n : Int) (hn : n ≤ 9223372036854775807) (ht : x.tk ≤ 4096) : Calls Try.prog 20 #[.pointer (some ⟨p, 0, none⟩), .int .i64 n] w fun e w' => e = .returned (.int .i64 (tkE x n)) ∧ SesOk w w' p r S (tkX x n) := by
  have F1 := isMade_yes h.six.c1
  have c3 := h.six.c3
  have f3 := h.six.thaw 3
  have HS : Hid (SesOk w w p r S x) := h.ok (Below.refl _ _)
  by_cases h1 : n ≤ (x.tk : Int)
  · rw [(tk_low h1).1, (tk_low h1).2]
    clear h
    go_enter Try.func20, Try.ntmps20
    go_wp2_with fail
    refine F1.mono ?_
    rintro e w1 ⟨rfl, rfl⟩
    go_wp2_with fail
    go_ret
    exact ⟨rfl, HS.out⟩
  by_cases h2 : (x.tk : Int) + 1 < n
  · rw [(tk_high h2).1, (tk_high h2).2]
    have q : (x.tk : Int) < n - 1 := by omega
    have q1 : -9223372036854775808 ≤ n - 1 := by omega
    have q2 : n - 1 ≤ 9223372036854775807 := by omega
    clear h
    go_enter Try.func20, Try.ntmps20
    go_wp2_with fail
    refine F1.mono ?_
    rintro e w1 ⟨rfl, rfl⟩
    go_wp2_with fail
    go_ret
    exact ⟨rfl, HS.out⟩
  · have en : n = (x.tk : Int) + 1 := by omega
    rw [show tkE x n = 0 by rw [en]; exact tk_ok.1, show tkX x n = ⟨x.room, x.sn, x.out, x.tk + 1, x.fa, x.dn, x.L⟩ by rw [en]; exact tk_ok.2]
    have HR : Hid (SesOk w (w.setCell ⟨p, 3, none⟩ (.int .i64 n)) p r S ⟨x.room, x.sn, x.out, x.tk + 1, x.fa, x.dn, x.L⟩) := h.wrote (h.six.set3 _ (by rw [en]; rfl) rfl rfl rfl) ((But.refl _ w).setCell p 3 _ (fun _ => rfl)) rfl rfl rfl rfl
    have q : ¬ (x.tk : Int) < n - 1 := by omega
    have q1 : -9223372036854775808 ≤ n - 1 := by omega
    have q2 : n - 1 ≤ 9223372036854775807 := by omega
    clear h h2 HS en
    go_enter Try.func20, Try.ntmps20
    go_wp2_with fail
    refine F1.mono ?_
    rintro e w1 ⟨rfl, rfl⟩
    go_wp2_with fail
    go_ret
    exact ⟨rfl, HR.out⟩
theorem takeN {w : World} {v : Value} (h : NoSes w v) (n : Int) : Calls Try.prog 20 #[v, .int .i64 n] w fun e w' => e = .returned (.int .i64 1) ∧ w = w' := by
  have F1 := isMade_no h
  clear h
  go_enter Try.func20, Try.ntmps20
  go_wp2_with fail
  refine F1.mono ?_
  rintro e w1 ⟨rfl, rfl⟩
  go_wp2_with fail
  go_ret
  exact ⟨rfl, rfl⟩
end Go.Proofs.Ytlgnbnojjfgfmaa.SN
