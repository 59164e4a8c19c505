/-
  No cell of these rows narrows 'for every input' (looked for: loops, veiled, ifaces, maps, wideKeys, modest, calm, conditions, laid).
  DERIVED. THE GIVEN ROWS OF THIS SEAT. 2 by the template 'for every input the law returns true; each argument reads behind the call as it read before'; 0 by the template 'total and deterministic' (their statements: YtjcbjhnnmkmjkabTotals.lean).
  GIVEN WITH THE SEED: the statements are not yours to turn. If you find one false, say at which input.
  Laid BY PROGRAM, IN A SANDBOX (cutbox-rows.mjs): the forced cells as the released guide's own fill.sh prints them over the translation e416742567d13af7… (all of the seat's roots in one cut). By AI agents, Wed Nov 11 2026. No macro, syntax, notation, axiom, sorry.
-/
import Derived.Test.YtjcbjhnnmkmjkabChecked
import GoSem.Claim
import GoSem.ClaimJoined
import GoSem.ClaimMapViews
import Derived.JoinedTies
import Derived.KernelRfl
namespace Go.Proofs.Ytjcbjhnnmkmjkab
/- THE CELL 'sum', in the pinned program and in every row, IS THE sha256 OF THE DUMP (.gsa) THAT YtjcbjhnnmkmjkabProg.lean LOADS. Nothing in Lean hashes anything: it is a label: what it is worth is what the hold of that sum in a sandbox is worth. -/
noncomputable def Try.pinned : Pinned := { name := "ytjcbjhnnmkmjkab", sum := "e416742567d13af774a42ef3dee5122eb2921ea6f6db9cef0eb3dad48d3bdec2", checked := Try.checked }
namespace Rows
def none {H : Type} : Left H := { results := [], args := [] }

/-- 'spigotlaw01.CheckedNext': WHATEVER THE INPUT: true; the input reads as it did. -/
def checkedNextSpec : ChangeSpec := { name := "checkedNext", fn := fun _ => fun
  | [d1, d2, d3] => { results := [.lit (.bool true)], args := [d1, d2, d3] }
  | _ => none }
def checkedNextRow : OpenClaim := { program := "ytjcbjhnnmkmjkab", sum := "e416742567d13af774a42ef3dee5122eb2921ea6f6db9cef0eb3dad48d3bdec2", func := "spigot/spigotlaw01.CheckedNext", spec := "checkedNext", inPlace := ["math/bits.Add64"], named := ["math/bits.divideError", "math/bits.overflowError"], apart := false }
def CheckedNextSaid : Prop := checkedNextRow.holds Try.pinned (OpenSpec.ofChange checkedNextSpec)

/-- ITS FALSE NEIGHBOUR: 'it returns false'. Refute it at one input. -/
def checkedNextWrong : ChangeSpec := { name := "checkedNext", fn := fun _ => fun
  | [d1, d2, d3] => { results := [.lit (.bool false)], args := [d1, d2, d3] }
  | _ => none }
def CheckedNextWrongFalsely : Prop := checkedNextRow.holds Try.pinned (OpenSpec.ofChange checkedNextWrong)

/-- 'spigotlaw01.CheckedShares': WHATEVER THE INPUT: true; the input reads as it did. -/
def checkedSharesSpec : ChangeSpec := { name := "checkedShares", fn := fun _ => fun
  | [d1, d2, d3] => { results := [.lit (.bool true)], args := [d1, d2, d3] }
  | _ => none }
def checkedSharesRow : OpenClaim := { program := "ytjcbjhnnmkmjkab", sum := "e416742567d13af774a42ef3dee5122eb2921ea6f6db9cef0eb3dad48d3bdec2", func := "spigot/spigotlaw01.CheckedShares", spec := "checkedShares", inPlace := ["math/bits.Add64"], named := ["math/bits.divideError", "math/bits.overflowError"], apart := false }
def CheckedSharesSaid : Prop := checkedSharesRow.holds Try.pinned (OpenSpec.ofChange checkedSharesSpec)

/-- ITS FALSE NEIGHBOUR: 'it returns false'. Refute it at one input. -/
def checkedSharesWrong : ChangeSpec := { name := "checkedShares", fn := fun _ => fun
  | [d1, d2, d3] => { results := [.lit (.bool false)], args := [d1, d2, d3] }
  | _ => none }
def CheckedSharesWrongFalsely : Prop := checkedSharesRow.holds Try.pinned (OpenSpec.ofChange checkedSharesWrong)

/- THE SECOND FORM. 'bulk': how many values and letters a reading holds, each counted each time it is reached (what is shared counts as often as it is met; a slice's spare places count too). A statement '..UptoSaid' is the law's where the arguments, and the package variables that the reading takes, are together of bulk at most 1048576: NARROWER than '..Said'. Prove '..Said' where nothing that the law and all that it calls make is longer than what came in: it says more and counts as full. Else prove '..UptoSaid'. A law counts once. -/
mutual
def uptoBulk {H : Type} : DataW H → Nat
  | .lit (.string bytes) => bytes.length + 1
  | .lit _ => 1
  | .nil => 1
  | .ptr d => uptoBulk d + 1
  | .slice elems spare => uptoBulkAll elems + uptoBulkAll spare + 1
  | .agg parts => uptoBulkAll parts + 1
  | .iface _ d => uptoBulk d + 1
  | .map entries => uptoBulkEntries entries + 1
  | .held _ => 1
def uptoBulkAll {H : Type} : List (DataW H) → Nat
  | [] => 0
  | d :: r => uptoBulk d + uptoBulkAll r
def uptoBulkEntries {H : Type} : List (Lit × DataW H) → Nat
  | [] => 0
  | x :: r => uptoBulkEntry x + uptoBulkEntries r
def uptoBulkEntry {H : Type} : Lit × DataW H → Nat
  | (.string bytes, d) => bytes.length + uptoBulk d + 1
  | (_, d) => uptoBulk d + 1
 end
def uptoSmall : (H : Type) → List (DataW H) → Bool := fun _ ds => decide (uptoBulkAll ds ≤ 1048576)
def OpenSpec.upto (s : _root_.Go.ChangeSpec) : _root_.Go.OpenSpec := { _root_.Go.OpenSpec.ofChange s with cond := some uptoSmall }

/-- 'spigotlaw01.CheckedNext', WHERE WHAT IT READS IS OF BULK AT MOST 1048576: true; the input reads as it did. -/
def checkedNextUptoRow : OpenClaim := { program := "ytjcbjhnnmkmjkab", sum := "e416742567d13af774a42ef3dee5122eb2921ea6f6db9cef0eb3dad48d3bdec2", func := "spigot/spigotlaw01.CheckedNext", spec := "checkedNext", inPlace := ["math/bits.Add64"], named := ["math/bits.divideError", "math/bits.overflowError"], apart := false, narrowed := true }
def CheckedNextUptoSaid : Prop := checkedNextUptoRow.holds Try.pinned (OpenSpec.upto checkedNextSpec)

/-- 'spigotlaw01.CheckedShares', WHERE WHAT IT READS IS OF BULK AT MOST 1048576: true; the input reads as it did. -/
def checkedSharesUptoRow : OpenClaim := { program := "ytjcbjhnnmkmjkab", sum := "e416742567d13af774a42ef3dee5122eb2921ea6f6db9cef0eb3dad48d3bdec2", func := "spigot/spigotlaw01.CheckedShares", spec := "checkedShares", inPlace := ["math/bits.Add64"], named := ["math/bits.divideError", "math/bits.overflowError"], apart := false, narrowed := true }
def CheckedSharesUptoSaid : Prop := checkedSharesUptoRow.holds Try.pinned (OpenSpec.upto checkedSharesSpec)

end Rows
end Go.Proofs.Ytjcbjhnnmkmjkab
