/-
  No cell of these rows narrows 'for every input' (looked for: loops, veiled, ifaces, maps, wideKeys, modest, calm, conditions, laid).
  DERIVED. THE GIVEN ROWS OF THIS SEAT. 4 by the template 'for every input the law returns true; each argument reads behind the call as it read before'; 0 by the template 'total and deterministic' (their statements: YtcjdbfmglckdkaaTotals.lean).
  GIVEN WITH THE SEED: the statements are not yours to turn. If you find one false, say at which input.
  Laid BY PROGRAM, IN A SANDBOX (cutbox-rows.mjs): the forced cells as the released guide's own fill.sh prints them over the translation aef2ddfaa820ab57… (all of the seat's roots in one cut). By AI agents, Wed Nov 11 2026. No macro, syntax, notation, axiom, sorry.
-/
import Derived.Test.YtcjdbfmglckdkaaChecked
import GoSem.Claim
import GoSem.ClaimJoined
import GoSem.ClaimMapViews
import Derived.JoinedTies
import Derived.KernelRfl
namespace Go.Proofs.Ytcjdbfmglckdkaa
/- THE CELL 'sum', in the pinned program and in every row, IS THE sha256 OF THE DUMP (.gsa) THAT YtcjdbfmglckdkaaProg.lean LOADS. Nothing in Lean hashes anything: it is a label: what it is worth is what the hold of that sum in a sandbox is worth. -/
noncomputable def Try.pinned : Pinned := { name := "ytcjdbfmglckdkaa", sum := "aef2ddfaa820ab5704847df747ba7dc3247bebd11cba6da809a2dbae40816cb0", checked := Try.checked }
namespace Rows
def none {H : Type} : Left H := { results := [], args := [] }

/-- 'spigotlaw17.RiskPlays': WHATEVER THE INPUT: true; the input reads as it did. -/
def riskPlaysSpec : ChangeSpec := { name := "riskPlays", fn := fun _ => fun
  | [d1, d2, d3] => { results := [.lit (.bool true)], args := [d1, d2, d3] }
  | _ => none }
def riskPlaysRow : OpenClaim := { program := "ytcjdbfmglckdkaa", sum := "aef2ddfaa820ab5704847df747ba7dc3247bebd11cba6da809a2dbae40816cb0", func := "spigot/spigotlaw17.RiskPlays", spec := "riskPlays", apart := false }
def RiskPlaysSaid : Prop := riskPlaysRow.holds Try.pinned (OpenSpec.ofChange riskPlaysSpec)

/-- ITS FALSE NEIGHBOUR: 'it returns false'. Refute it at one input. -/
def riskPlaysWrong : ChangeSpec := { name := "riskPlays", fn := fun _ => fun
  | [d1, d2, d3] => { results := [.lit (.bool false)], args := [d1, d2, d3] }
  | _ => none }
def RiskPlaysWrongFalsely : Prop := riskPlaysRow.holds Try.pinned (OpenSpec.ofChange riskPlaysWrong)

/-- 'spigotlaw17.RiskNone': WHATEVER THE INPUT: true; the input reads as it did. -/
def riskNoneSpec : ChangeSpec := { name := "riskNone", fn := fun _ => fun
  | [d] => { results := [.lit (.bool true)], args := [d] }
  | _ => none }
def riskNoneRow : OpenClaim := { program := "ytcjdbfmglckdkaa", sum := "aef2ddfaa820ab5704847df747ba7dc3247bebd11cba6da809a2dbae40816cb0", func := "spigot/spigotlaw17.RiskNone", spec := "riskNone", apart := false }
def RiskNoneSaid : Prop := riskNoneRow.holds Try.pinned (OpenSpec.ofChange riskNoneSpec)

/-- ITS FALSE NEIGHBOUR: 'it returns false'. Refute it at one input. -/
def riskNoneWrong : ChangeSpec := { name := "riskNone", fn := fun _ => fun
  | [d] => { results := [.lit (.bool false)], args := [d] }
  | _ => none }
def RiskNoneWrongFalsely : Prop := riskNoneRow.holds Try.pinned (OpenSpec.ofChange riskNoneWrong)

/-- 'spigotlaw17.RiskBounds': WHATEVER THE INPUT: true; the input reads as it did. -/
def riskBoundsSpec : ChangeSpec := { name := "riskBounds", fn := fun _ => fun
  | [d1, d2, d3] => { results := [.lit (.bool true)], args := [d1, d2, d3] }
  | _ => none }
def riskBoundsRow : OpenClaim := { program := "ytcjdbfmglckdkaa", sum := "aef2ddfaa820ab5704847df747ba7dc3247bebd11cba6da809a2dbae40816cb0", func := "spigot/spigotlaw17.RiskBounds", spec := "riskBounds", apart := false }
def RiskBoundsSaid : Prop := riskBoundsRow.holds Try.pinned (OpenSpec.ofChange riskBoundsSpec)

/-- ITS FALSE NEIGHBOUR: 'it returns false'. Refute it at one input. -/
def riskBoundsWrong : ChangeSpec := { name := "riskBounds", fn := fun _ => fun
  | [d1, d2, d3] => { results := [.lit (.bool false)], args := [d1, d2, d3] }
  | _ => none }
def RiskBoundsWrongFalsely : Prop := riskBoundsRow.holds Try.pinned (OpenSpec.ofChange riskBoundsWrong)

/-- 'spigotlaw17.RiskRefused': WHATEVER THE INPUT: true; the input reads as it did. -/
def riskRefusedSpec : ChangeSpec := { name := "riskRefused", fn := fun _ => fun
  | [d1, d2, d3] => { results := [.lit (.bool true)], args := [d1, d2, d3] }
  | _ => none }
def riskRefusedRow : OpenClaim := { program := "ytcjdbfmglckdkaa", sum := "aef2ddfaa820ab5704847df747ba7dc3247bebd11cba6da809a2dbae40816cb0", func := "spigot/spigotlaw17.RiskRefused", spec := "riskRefused", apart := false }
def RiskRefusedSaid : Prop := riskRefusedRow.holds Try.pinned (OpenSpec.ofChange riskRefusedSpec)

/-- ITS FALSE NEIGHBOUR: 'it returns false'. Refute it at one input. -/
def riskRefusedWrong : ChangeSpec := { name := "riskRefused", fn := fun _ => fun
  | [d1, d2, d3] => { results := [.lit (.bool false)], args := [d1, d2, d3] }
  | _ => none }
def RiskRefusedWrongFalsely : Prop := riskRefusedRow.holds Try.pinned (OpenSpec.ofChange riskRefusedWrong)

/- THE SECOND FORM. 'bulk': how many values and letters a reading holds, each counted each time it is reached (what is shared counts as often as it is met; a slice's spare places count too). A statement '..UptoSaid' is the law's where the arguments, and the package variables that the reading takes, are together of bulk at most 1048576: NARROWER than '..Said'. Prove '..Said' where nothing that the law and all that it calls make is longer than what came in: it says more and counts as full. Else prove '..UptoSaid'. A law counts once. -/
mutual
def uptoBulk {H : Type} : DataW H → Nat
  | .lit (.string bytes) => bytes.length + 1
  | .lit _ => 1
  | .nil => 1
  | .ptr d => uptoBulk d + 1
  | .slice elems spare => uptoBulkAll elems + uptoBulkAll spare + 1
  | .agg parts => uptoBulkAll parts + 1
  | .iface _ d => uptoBulk d + 1
  | .map entries => uptoBulkEntries entries + 1
  | .held _ => 1
def uptoBulkAll {H : Type} : List (DataW H) → Nat
  | [] => 0
  | d :: r => uptoBulk d + uptoBulkAll r
def uptoBulkEntries {H : Type} : List (Lit × DataW H) → Nat
  | [] => 0
  | x :: r => uptoBulkEntry x + uptoBulkEntries r
def uptoBulkEntry {H : Type} : Lit × DataW H → Nat
  | (.string bytes, d) => bytes.length + uptoBulk d + 1
  | (_, d) => uptoBulk d + 1
 end
def uptoSmall : (H : Type) → List (DataW H) → Bool := fun _ ds => decide (uptoBulkAll ds ≤ 1048576)
def OpenSpec.upto (s : _root_.Go.ChangeSpec) : _root_.Go.OpenSpec := { _root_.Go.OpenSpec.ofChange s with cond := some uptoSmall }

/-- 'spigotlaw17.RiskPlays', WHERE WHAT IT READS IS OF BULK AT MOST 1048576: true; the input reads as it did. -/
def riskPlaysUptoRow : OpenClaim := { program := "ytcjdbfmglckdkaa", sum := "aef2ddfaa820ab5704847df747ba7dc3247bebd11cba6da809a2dbae40816cb0", func := "spigot/spigotlaw17.RiskPlays", spec := "riskPlays", apart := false, narrowed := true }
def RiskPlaysUptoSaid : Prop := riskPlaysUptoRow.holds Try.pinned (OpenSpec.upto riskPlaysSpec)

/-- 'spigotlaw17.RiskNone', WHERE WHAT IT READS IS OF BULK AT MOST 1048576: true; the input reads as it did. -/
def riskNoneUptoRow : OpenClaim := { program := "ytcjdbfmglckdkaa", sum := "aef2ddfaa820ab5704847df747ba7dc3247bebd11cba6da809a2dbae40816cb0", func := "spigot/spigotlaw17.RiskNone", spec := "riskNone", apart := false, narrowed := true }
def RiskNoneUptoSaid : Prop := riskNoneUptoRow.holds Try.pinned (OpenSpec.upto riskNoneSpec)

/-- 'spigotlaw17.RiskBounds', WHERE WHAT IT READS IS OF BULK AT MOST 1048576: true; the input reads as it did. -/
def riskBoundsUptoRow : OpenClaim := { program := "ytcjdbfmglckdkaa", sum := "aef2ddfaa820ab5704847df747ba7dc3247bebd11cba6da809a2dbae40816cb0", func := "spigot/spigotlaw17.RiskBounds", spec := "riskBounds", apart := false, narrowed := true }
def RiskBoundsUptoSaid : Prop := riskBoundsUptoRow.holds Try.pinned (OpenSpec.upto riskBoundsSpec)

/-- 'spigotlaw17.RiskRefused', WHERE WHAT IT READS IS OF BULK AT MOST 1048576: true; the input reads as it did. -/
def riskRefusedUptoRow : OpenClaim := { program := "ytcjdbfmglckdkaa", sum := "aef2ddfaa820ab5704847df747ba7dc3247bebd11cba6da809a2dbae40816cb0", func := "spigot/spigotlaw17.RiskRefused", spec := "riskRefused", apart := false, narrowed := true }
def RiskRefusedUptoSaid : Prop := riskRefusedUptoRow.holds Try.pinned (OpenSpec.upto riskRefusedSpec)

end Rows
end Go.Proofs.Ytcjdbfmglckdkaa
