/-
  No cell of these rows narrows 'for every input' (looked for: loops, veiled, ifaces, maps, wideKeys, modest, calm, conditions, laid).
  DERIVED. THE GIVEN ROWS OF THIS SEAT. 3 by the template 'for every input the law returns true; each argument reads behind the call as it read before'; 0 by the template 'total and deterministic' (their statements: YtbmmokdccfajmaaTotals.lean).
  GIVEN WITH THE SEED: the statements are not yours to turn. If you find one false, say at which input.
  Laid BY PROGRAM, IN A SANDBOX (cutbox-rows.mjs): the forced cells as the released guide's own fill.sh prints them over the translation 4fa45e749a6030e0… (all of the seat's roots in one cut). By AI agents, Wed Nov 11 2026. No macro, syntax, notation, axiom, sorry.
-/
import Derived.Test.YtbmmokdccfajmaaChecked
import GoSem.Claim
import GoSem.ClaimJoined
import GoSem.ClaimMapViews
import Derived.JoinedTies
import Derived.KernelRfl
namespace Go.Proofs.Ytbmmokdccfajmaa
/- THE CELL 'sum', in the pinned program and in every row, IS THE sha256 OF THE DUMP (.gsa) THAT YtbmmokdccfajmaaProg.lean LOADS. Nothing in Lean hashes anything: it is a label: what it is worth is what the hold of that sum in a sandbox is worth. -/
noncomputable def Try.pinned : Pinned := { name := "ytbmmokdccfajmaa", sum := "4fa45e749a6030e066cd1a5d9c6bb8e87a4468b969ba3f212763f79166eb9d38", checked := Try.checked }
namespace Rows
def none {H : Type} : Left H := { results := [], args := [] }

/-- 'spigotlaw18.PositionPlays': WHATEVER THE INPUT: true; the input reads as it did. -/
def positionPlaysSpec : ChangeSpec := { name := "positionPlays", fn := fun _ => fun
  | [d1, d2, d3] => { results := [.lit (.bool true)], args := [d1, d2, d3] }
  | _ => none }
def positionPlaysRow : OpenClaim := { program := "ytbmmokdccfajmaa", sum := "4fa45e749a6030e066cd1a5d9c6bb8e87a4468b969ba3f212763f79166eb9d38", func := "spigot/spigotlaw18.PositionPlays", spec := "positionPlays", inPlace := ["math/bits.Add64"], unfollowed := true, recurses := true, apart := false }
def PositionPlaysSaid : Prop := positionPlaysRow.holds Try.pinned (OpenSpec.ofChange positionPlaysSpec)

/-- ITS FALSE NEIGHBOUR: 'it returns false'. Refute it at one input. -/
def positionPlaysWrong : ChangeSpec := { name := "positionPlays", fn := fun _ => fun
  | [d1, d2, d3] => { results := [.lit (.bool false)], args := [d1, d2, d3] }
  | _ => none }
def PositionPlaysWrongFalsely : Prop := positionPlaysRow.holds Try.pinned (OpenSpec.ofChange positionPlaysWrong)

/-- 'spigotlaw18.PositionNone': WHATEVER THE INPUT: true; the input reads as it did. -/
def positionNoneSpec : ChangeSpec := { name := "positionNone", fn := fun _ => fun
  | [d] => { results := [.lit (.bool true)], args := [d] }
  | _ => none }
def positionNoneRow : OpenClaim := { program := "ytbmmokdccfajmaa", sum := "4fa45e749a6030e066cd1a5d9c6bb8e87a4468b969ba3f212763f79166eb9d38", func := "spigot/spigotlaw18.PositionNone", spec := "positionNone", inPlace := ["math/bits.Add64"], unfollowed := true, recurses := true, apart := false }
def PositionNoneSaid : Prop := positionNoneRow.holds Try.pinned (OpenSpec.ofChange positionNoneSpec)

/-- ITS FALSE NEIGHBOUR: 'it returns false'. Refute it at one input. -/
def positionNoneWrong : ChangeSpec := { name := "positionNone", fn := fun _ => fun
  | [d] => { results := [.lit (.bool false)], args := [d] }
  | _ => none }
def PositionNoneWrongFalsely : Prop := positionNoneRow.holds Try.pinned (OpenSpec.ofChange positionNoneWrong)

/-- 'spigotlaw18.PositionTurned': WHATEVER THE INPUT: true; the input reads as it did. -/
def positionTurnedSpec : ChangeSpec := { name := "positionTurned", fn := fun _ => fun
  | [d1, d2] => { results := [.lit (.bool true)], args := [d1, d2] }
  | _ => none }
def positionTurnedRow : OpenClaim := { program := "ytbmmokdccfajmaa", sum := "4fa45e749a6030e066cd1a5d9c6bb8e87a4468b969ba3f212763f79166eb9d38", func := "spigot/spigotlaw18.PositionTurned", spec := "positionTurned", inPlace := ["math/bits.Add64"], unfollowed := true, recurses := true, apart := false }
def PositionTurnedSaid : Prop := positionTurnedRow.holds Try.pinned (OpenSpec.ofChange positionTurnedSpec)

/-- ITS FALSE NEIGHBOUR: 'it returns false'. Refute it at one input. -/
def positionTurnedWrong : ChangeSpec := { name := "positionTurned", fn := fun _ => fun
  | [d1, d2] => { results := [.lit (.bool false)], args := [d1, d2] }
  | _ => none }
def PositionTurnedWrongFalsely : Prop := positionTurnedRow.holds Try.pinned (OpenSpec.ofChange positionTurnedWrong)

/- THE SECOND FORM. 'bulk': how many values and letters a reading holds, each counted each time it is reached (what is shared counts as often as it is met; a slice's spare places count too). A statement '..UptoSaid' is the law's where the arguments, and the package variables that the reading takes, are together of bulk at most 1048576: NARROWER than '..Said'. Prove '..Said' where nothing that the law and all that it calls make is longer than what came in: it says more and counts as full. Else prove '..UptoSaid'. A law counts once. -/
mutual
def uptoBulk {H : Type} : DataW H → Nat
  | .lit (.string bytes) => bytes.length + 1
  | .lit _ => 1
  | .nil => 1
  | .ptr d => uptoBulk d + 1
  | .slice elems spare => uptoBulkAll elems + uptoBulkAll spare + 1
  | .agg parts => uptoBulkAll parts + 1
  | .iface _ d => uptoBulk d + 1
  | .map entries => uptoBulkEntries entries + 1
  | .held _ => 1
def uptoBulkAll {H : Type} : List (DataW H) → Nat
  | [] => 0
  | d :: r => uptoBulk d + uptoBulkAll r
def uptoBulkEntries {H : Type} : List (Lit × DataW H) → Nat
  | [] => 0
  | x :: r => uptoBulkEntry x + uptoBulkEntries r
def uptoBulkEntry {H : Type} : Lit × DataW H → Nat
  | (.string bytes, d) => bytes.length + uptoBulk d + 1
  | (_, d) => uptoBulk d + 1
 end
def uptoSmall : (H : Type) → List (DataW H) → Bool := fun _ ds => decide (uptoBulkAll ds ≤ 1048576)
def OpenSpec.upto (s : _root_.Go.ChangeSpec) : _root_.Go.OpenSpec := { _root_.Go.OpenSpec.ofChange s with cond := some uptoSmall }

/-- 'spigotlaw18.PositionPlays', WHERE WHAT IT READS IS OF BULK AT MOST 1048576: true; the input reads as it did. -/
def positionPlaysUptoRow : OpenClaim := { program := "ytbmmokdccfajmaa", sum := "4fa45e749a6030e066cd1a5d9c6bb8e87a4468b969ba3f212763f79166eb9d38", func := "spigot/spigotlaw18.PositionPlays", spec := "positionPlays", inPlace := ["math/bits.Add64"], unfollowed := true, recurses := true, apart := false, narrowed := true }
def PositionPlaysUptoSaid : Prop := positionPlaysUptoRow.holds Try.pinned (OpenSpec.upto positionPlaysSpec)

/-- 'spigotlaw18.PositionNone', WHERE WHAT IT READS IS OF BULK AT MOST 1048576: true; the input reads as it did. -/
def positionNoneUptoRow : OpenClaim := { program := "ytbmmokdccfajmaa", sum := "4fa45e749a6030e066cd1a5d9c6bb8e87a4468b969ba3f212763f79166eb9d38", func := "spigot/spigotlaw18.PositionNone", spec := "positionNone", inPlace := ["math/bits.Add64"], unfollowed := true, recurses := true, apart := false, narrowed := true }
def PositionNoneUptoSaid : Prop := positionNoneUptoRow.holds Try.pinned (OpenSpec.upto positionNoneSpec)

/-- 'spigotlaw18.PositionTurned', WHERE WHAT IT READS IS OF BULK AT MOST 1048576: true; the input reads as it did. -/
def positionTurnedUptoRow : OpenClaim := { program := "ytbmmokdccfajmaa", sum := "4fa45e749a6030e066cd1a5d9c6bb8e87a4468b969ba3f212763f79166eb9d38", func := "spigot/spigotlaw18.PositionTurned", spec := "positionTurned", inPlace := ["math/bits.Add64"], unfollowed := true, recurses := true, apart := false, narrowed := true }
def PositionTurnedUptoSaid : Prop := positionTurnedUptoRow.holds Try.pinned (OpenSpec.upto positionTurnedSpec)

end Rows
end Go.Proofs.Ytbmmokdccfajmaa
