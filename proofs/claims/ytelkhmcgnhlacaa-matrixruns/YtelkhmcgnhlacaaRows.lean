/-
  No cell of these rows narrows 'for every input' (looked for: loops, veiled, ifaces, maps, wideKeys, modest, calm, conditions, laid).
  DERIVED. THE GIVEN ROWS OF THIS SEAT. 3 by the template 'for every input the law returns true; each argument reads behind the call as it read before'; 0 by the template 'total and deterministic' (their statements: YtelkhmcgnhlacaaTotals.lean).
  GIVEN WITH THE SEED: the statements are not yours to turn. If you find one false, say at which input.
  Laid BY PROGRAM, IN A SANDBOX (cutbox-rows.mjs): the forced cells as the released guide's own fill.sh prints them over the translation 3c702c00b7880950… (all of the seat's roots in one cut). By AI agents, Wed Nov 11 2026. No macro, syntax, notation, axiom, sorry.
-/
import Derived.Test.YtelkhmcgnhlacaaChecked
import GoSem.Claim
import GoSem.ClaimJoined
import GoSem.ClaimMapViews
import Derived.JoinedTies
import Derived.KernelRfl
namespace Go.Proofs.Ytelkhmcgnhlacaa
/- THE CELL 'sum', in the pinned program and in every row, IS THE sha256 OF THE DUMP (.gsa) THAT YtelkhmcgnhlacaaProg.lean LOADS. Nothing in Lean hashes anything: it is a label: what it is worth is what the hold of that sum in a sandbox is worth. -/
noncomputable def Try.pinned : Pinned := { name := "ytelkhmcgnhlacaa", sum := "3c702c00b78809506e18fb39816a23df3b258cc93e5614db9d8508bf612f3485", checked := Try.checked }
namespace Rows
def none {H : Type} : Left H := { results := [], args := [] }

/-- 'spigotlaw20.MatrixNexts': WHATEVER THE INPUT: true; the input reads as it did. -/
def matrixNextsSpec : ChangeSpec := { name := "matrixNexts", fn := fun _ => fun
  | [d1, d2, d3] => { results := [.lit (.bool true)], args := [d1, d2, d3] }
  | _ => none }
def matrixNextsRow : OpenClaim := { program := "ytelkhmcgnhlacaa", sum := "3c702c00b78809506e18fb39816a23df3b258cc93e5614db9d8508bf612f3485", func := "spigot/spigotlaw20.MatrixNexts", spec := "matrixNexts", apart := false }
def MatrixNextsSaid : Prop := matrixNextsRow.holds Try.pinned (OpenSpec.ofChange matrixNextsSpec)

/-- ITS FALSE NEIGHBOUR: 'it returns false'. Refute it at one input. -/
def matrixNextsWrong : ChangeSpec := { name := "matrixNexts", fn := fun _ => fun
  | [d1, d2, d3] => { results := [.lit (.bool false)], args := [d1, d2, d3] }
  | _ => none }
def MatrixNextsWrongFalsely : Prop := matrixNextsRow.holds Try.pinned (OpenSpec.ofChange matrixNextsWrong)

/-- 'spigotlaw20.MatrixWords': WHATEVER THE INPUT: true; the input reads as it did. -/
def matrixWordsSpec : ChangeSpec := { name := "matrixWords", fn := fun _ => fun
  | [d] => { results := [.lit (.bool true)], args := [d] }
  | _ => none }
def matrixWordsRow : OpenClaim := { program := "ytelkhmcgnhlacaa", sum := "3c702c00b78809506e18fb39816a23df3b258cc93e5614db9d8508bf612f3485", func := "spigot/spigotlaw20.MatrixWords", spec := "matrixWords", apart := false }
def MatrixWordsSaid : Prop := matrixWordsRow.holds Try.pinned (OpenSpec.ofChange matrixWordsSpec)

/-- ITS FALSE NEIGHBOUR: 'it returns false'. Refute it at one input. -/
def matrixWordsWrong : ChangeSpec := { name := "matrixWords", fn := fun _ => fun
  | [d] => { results := [.lit (.bool false)], args := [d] }
  | _ => none }
def MatrixWordsWrongFalsely : Prop := matrixWordsRow.holds Try.pinned (OpenSpec.ofChange matrixWordsWrong)

/-- 'spigotlaw20.MatrixRuns': WHATEVER THE INPUT: true; the input reads as it did. -/
def matrixRunsSpec : ChangeSpec := { name := "matrixRuns", fn := fun _ => fun
  | [d1, d2] => { results := [.lit (.bool true)], args := [d1, d2] }
  | _ => none }
def matrixRunsRow : OpenClaim := { program := "ytelkhmcgnhlacaa", sum := "3c702c00b78809506e18fb39816a23df3b258cc93e5614db9d8508bf612f3485", func := "spigot/spigotlaw20.MatrixRuns", spec := "matrixRuns", apart := false }
def MatrixRunsSaid : Prop := matrixRunsRow.holds Try.pinned (OpenSpec.ofChange matrixRunsSpec)

/-- ITS FALSE NEIGHBOUR: 'it returns false'. Refute it at one input. -/
def matrixRunsWrong : ChangeSpec := { name := "matrixRuns", fn := fun _ => fun
  | [d1, d2] => { results := [.lit (.bool false)], args := [d1, d2] }
  | _ => none }
def MatrixRunsWrongFalsely : Prop := matrixRunsRow.holds Try.pinned (OpenSpec.ofChange matrixRunsWrong)

/- THE SECOND FORM. 'bulk': how many values and letters a reading holds, each counted each time it is reached (what is shared counts as often as it is met; a slice's spare places count too). A statement '..UptoSaid' is the law's where the arguments, and the package variables that the reading takes, are together of bulk at most 1048576: NARROWER than '..Said'. Prove '..Said' where nothing that the law and all that it calls make is longer than what came in: it says more and counts as full. Else prove '..UptoSaid'. A law counts once. -/
mutual
def uptoBulk {H : Type} : DataW H → Nat
  | .lit (.string bytes) => bytes.length + 1
  | .lit _ => 1
  | .nil => 1
  | .ptr d => uptoBulk d + 1
  | .slice elems spare => uptoBulkAll elems + uptoBulkAll spare + 1
  | .agg parts => uptoBulkAll parts + 1
  | .iface _ d => uptoBulk d + 1
  | .map entries => uptoBulkEntries entries + 1
  | .held _ => 1
def uptoBulkAll {H : Type} : List (DataW H) → Nat
  | [] => 0
  | d :: r => uptoBulk d + uptoBulkAll r
def uptoBulkEntries {H : Type} : List (Lit × DataW H) → Nat
  | [] => 0
  | x :: r => uptoBulkEntry x + uptoBulkEntries r
def uptoBulkEntry {H : Type} : Lit × DataW H → Nat
  | (.string bytes, d) => bytes.length + uptoBulk d + 1
  | (_, d) => uptoBulk d + 1
 end
def uptoSmall : (H : Type) → List (DataW H) → Bool := fun _ ds => decide (uptoBulkAll ds ≤ 1048576)
def OpenSpec.upto (s : _root_.Go.ChangeSpec) : _root_.Go.OpenSpec := { _root_.Go.OpenSpec.ofChange s with cond := some uptoSmall }

/-- 'spigotlaw20.MatrixNexts', WHERE WHAT IT READS IS OF BULK AT MOST 1048576: true; the input reads as it did. -/
def matrixNextsUptoRow : OpenClaim := { program := "ytelkhmcgnhlacaa", sum := "3c702c00b78809506e18fb39816a23df3b258cc93e5614db9d8508bf612f3485", func := "spigot/spigotlaw20.MatrixNexts", spec := "matrixNexts", apart := false, narrowed := true }
def MatrixNextsUptoSaid : Prop := matrixNextsUptoRow.holds Try.pinned (OpenSpec.upto matrixNextsSpec)

/-- 'spigotlaw20.MatrixWords', WHERE WHAT IT READS IS OF BULK AT MOST 1048576: true; the input reads as it did. -/
def matrixWordsUptoRow : OpenClaim := { program := "ytelkhmcgnhlacaa", sum := "3c702c00b78809506e18fb39816a23df3b258cc93e5614db9d8508bf612f3485", func := "spigot/spigotlaw20.MatrixWords", spec := "matrixWords", apart := false, narrowed := true }
def MatrixWordsUptoSaid : Prop := matrixWordsUptoRow.holds Try.pinned (OpenSpec.upto matrixWordsSpec)

/-- 'spigotlaw20.MatrixRuns', WHERE WHAT IT READS IS OF BULK AT MOST 1048576: true; the input reads as it did. -/
def matrixRunsUptoRow : OpenClaim := { program := "ytelkhmcgnhlacaa", sum := "3c702c00b78809506e18fb39816a23df3b258cc93e5614db9d8508bf612f3485", func := "spigot/spigotlaw20.MatrixRuns", spec := "matrixRuns", apart := false, narrowed := true }
def MatrixRunsUptoSaid : Prop := matrixRunsUptoRow.holds Try.pinned (OpenSpec.upto matrixRunsSpec)

end Rows
end Go.Proofs.Ytelkhmcgnhlacaa
