/-
  The contract of the reference's Right of asks, for new orders whatever they hold.
-/
import Derived.Test.YtdacfnodihannaaGreatAskRRs
import Derived.Test.YtdacfnodihannaaGreatAskRRi
import Derived.Test.YtdacfnodihannaaGreatAskRRn
import Derived.Test.YtdacfnodihannaaGreatAskRefNil
import Derived.Test.YtdacfnodihannaaGreatAskKept
namespace Go.Proofs.YtdacfnodihannaaGreat
open Go.ChangeShapes Go.WideShapes Go.ChangeAt Go.RowKit Go.Lib

theorem refRight_newc (k : Int) (i t c s : ByteArray) (sd q p al st en ra sh : Int) (a : Option Addr) (cap : Nat) (cz : List Int) (w : World) (hr : Row w (.slice a cz.length cap) cz.length fun i => .int .i64 (cz.getD i 0)) (zi : i.size ≤ 100000) (zc : c.size ≤ 100000) (zs : s.size ≤ 100000) (k1 : k = 1) (cv : Value)
    (KP : ∀ w1, Calls Tryz.prog 42 #[.agg #[.int .i64 k, .string i, .string t, .string c, .string s, .int .i64 sd, .int .i64 q, .int .i64 p, .int .i64 al, .int .i64 st, .int .i64 en, .int .i64 ra, .int .i64 sh, .slice a cz.length cap]] w1 fun e' w' => e' = .returned (.agg #[.int .i64 k, .string i, .string ⟨#[]⟩, .string c, .string s, .int .i64 sd, .int .i64 q, .int .i64 p, .int .i64 al, .int .i64 st, .int .i64 en, .int .i64 (keptR al ra), .int .i64 (keptS al sh), cv]) ∧ Below w1.heap.size w1 w')
    (SI : ∀ w1, Below w.heap.size w w1 → Calls Tryz.prog 32 #[.slice a cz.length cap, cv] w1 fun e w' => e = .returned (.bool (keptC al cz.length)) ∧ Below w1.heap.size w1 w') :
    Calls Tryz.prog 22 #[.agg #[.int .i64 k, .string i, .string t, .string c, .string s, .int .i64 sd, .int .i64 q, .int .i64 p, .int .i64 al, .int .i64 st, .int .i64 en, .int .i64 ra, .int .i64 sh, .slice a cz.length cap]] w fun e w' => e = .returned (.bool (rightB k i t c s sd q p al st en ra sh cz.length (curB cz))) ∧ Below w.heap.size w w' := by
  have hk : inB k 1 5 = true := inB_true.2 (by omega)
  have SM : ∀ w1, Below w.heap.size w w1 → _ := fun w1 b => same_any12 k i t c s sd q p al st en ra sh (.slice a cz.length cap) k i ⟨#[]⟩ c s sd q p al st en (keptR al ra) (keptS al sh) cv (keptC al cz.length) w1 (fun w2 b2 => SI w2 (b.trans (b2.mono b.size)))
  rw [right_new k1]
  cases hS : sameB k k i i t ⟨#[]⟩ c c s s sd sd q q p p al al st st en en ra (keptR al ra) sh (keptS al sh) (keptC al cz.length)
  · rw [hS] at SM
    rw [Bool.and_false, Bool.and_false]
    exact refRight_nosame k i t c s sd q p al st en ra sh a cz.length cap k i ⟨#[]⟩ c s sd q p al st en (keptR al ra) (keptS al sh) cv w hk KP SM
  rw [hS] at SM
  cases hv : vldB i
  · rw [Bool.false_and]
    exact refRight_noid k i t c s sd q p al st en ra sh a cz.length cap k i ⟨#[]⟩ c s sd q p al st en (keptR al ra) (keptS al sh) cv w hk KP SM hv zi
  rw [Bool.true_and, Bool.and_true]
  subst k1
  exact refRight_new 1 i t c s sd q p al st en ra sh a cz.length cap 1 i ⟨#[]⟩ c s sd q p al st en (keptR al ra) (keptS al sh) cv w hk KP SM hv zi rfl zc zs _ _ (fun h1 h2 w1 b => by
    rw [inB_true] at h1 h2
    exact refWhole_at 1 i t c s sd q p al st en ra sh a cz.length cap (curB cz) w1 (fun _ => by omega) (fun w2 b2 => ref3Right_any cz _ w2 (hr.below (b.trans (b2.mono b.size)))))
theorem refRight_one (k : Int) (i t c s : ByteArray) (sd q p al st en ra sh : Int) (a : Option Addr) (cap : Nat) (cz : List Int) (w : World) (hr : Row w (.slice a cz.length cap) cz.length fun i => .int .i64 (cz.getD i 0)) (hz : cz.length ≤ 1000000) (zi : i.size ≤ 100000) (zc : c.size ≤ 100000) (zs : s.size ≤ 100000) (k1 : k = 1) :
    Calls Tryz.prog 22 #[.agg #[.int .i64 k, .string i, .string t, .string c, .string s, .int .i64 sd, .int .i64 q, .int .i64 p, .int .i64 al, .int .i64 st, .int .i64 en, .int .i64 ra, .int .i64 sh, .slice a cz.length cap]] w fun e w' => e = .returned (.bool (rightB k i t c s sd q p al st en ra sh cz.length (curB cz))) ∧ Below w.heap.size w w' := by
  by_cases a2 : al = 2
  · refine refRight_newc k i t c s sd q p al st en ra sh a cap cz w hr zi zc zs k1 (.slice a cz.length cap) (fun w1 => ?_) (fun w1 b => ?_)
    · rw [show keptR al ra = 0 by unfold keptR; rw [if_neg (by omega)], show keptS al sh = 0 by unfold keptS; rw [if_neg (by omega)]]
      exact kept_new2 k i t c s sd q p al st en ra sh a cz.length cap w1 k1 a2
    · rw [show keptC al cz.length = true by unfold keptC; rw [if_pos a2]]
      exact sameI_yes (fun i => cz.getD i 0) cz.length _ _ w1 hz (hr.below b) (hr.below b)
  by_cases a3 : al = 3
  · refine refRight_newc k i t c s sd q p al st en ra sh a cap cz w hr zi zc zs k1 (.slice none 0 0) (fun w1 => ?_) (fun w1 b => ?_)
    · rw [show keptR al ra = ra by unfold keptR; rw [if_pos a3], show keptS al sh = 0 by unfold keptS; rw [if_neg (by omega)]]
      exact kept_new3 k i t c s sd q p al st en ra sh a cz.length cap w1 k1 a3
    · rw [show keptC al cz.length = decide (cz.length = 0) by unfold keptC; rw [if_neg a2]]
      exact sameI_nil a cz.length cap w1
  by_cases a4 : al = 4
  · refine refRight_newc k i t c s sd q p al st en ra sh a cap cz w hr zi zc zs k1 (.slice none 0 0) (fun w1 => ?_) (fun w1 b => ?_)
    · rw [show keptR al ra = 0 by unfold keptR; rw [if_neg a3], show keptS al sh = sh by unfold keptS; rw [if_pos a4]]
      exact kept_new4 k i t c s sd q p al st en ra sh a cz.length cap w1 k1 a4
    · rw [show keptC al cz.length = decide (cz.length = 0) by unfold keptC; rw [if_neg a2]]
      exact sameI_nil a cz.length cap w1
  · refine refRight_newc k i t c s sd q p al st en ra sh a cap cz w hr zi zc zs k1 (.slice none 0 0) (fun w1 => ?_) (fun w1 b => ?_)
    · rw [show keptR al ra = 0 by unfold keptR; rw [if_neg a3], show keptS al sh = 0 by unfold keptS; rw [if_neg a4]]
      exact kept_new1 k i t c s sd q p al st en ra sh (.slice a cz.length cap) w1 k1 a2 a3 a4
    · rw [show keptC al cz.length = decide (cz.length = 0) by unfold keptC; rw [if_neg a2]]
      exact sameI_nil a cz.length cap w1
end Go.Proofs.YtdacfnodihannaaGreat
