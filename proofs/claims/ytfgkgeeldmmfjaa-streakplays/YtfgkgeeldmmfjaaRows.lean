/-
  No cell of these rows narrows 'for every input' (looked for: loops, veiled, ifaces, maps, wideKeys, modest, calm, conditions, laid).
  DERIVED. THE GIVEN ROWS OF THIS SEAT. 3 by the template 'for every input the law returns true; each argument reads behind the call as it read before'; 0 by the template 'total and deterministic' (their statements: YtfgkgeeldmmfjaaTotals.lean).
  GIVEN WITH THE SEED: the statements are not yours to turn. If you find one false, say at which input.
  Laid BY PROGRAM, IN A SANDBOX (cutbox-rows.mjs): the forced cells as the released guide's own fill.sh prints them over the translation 7afa8a133a491d7e… (all of the seat's roots in one cut). By AI agents, Wed Nov 11 2026. No macro, syntax, notation, axiom, sorry.
-/
import Derived.Test.YtfgkgeeldmmfjaaChecked
import GoSem.Claim
import GoSem.ClaimJoined
import GoSem.ClaimMapViews
import Derived.JoinedTies
import Derived.KernelRfl
namespace Go.Proofs.Ytfgkgeeldmmfjaa
/- THE CELL 'sum', in the pinned program and in every row, IS THE sha256 OF THE DUMP (.gsa) THAT YtfgkgeeldmmfjaaProg.lean LOADS. Nothing in Lean hashes anything: it is a label: what it is worth is what the hold of that sum in a sandbox is worth. -/
noncomputable def Try.pinned : Pinned := { name := "ytfgkgeeldmmfjaa", sum := "7afa8a133a491d7e09a73b7c87521551eec31cdd117fa37ca34f10ff31712ada", checked := Try.checked }
namespace Rows
def none {H : Type} : Left H := { results := [], args := [] }

/-- 'spigotlaw07.StreakPlays': WHATEVER THE INPUT: true; the input reads as it did. -/
def streakPlaysSpec : ChangeSpec := { name := "streakPlays", fn := fun _ => fun
  | [d1, d2] => { results := [.lit (.bool true)], args := [d1, d2] }
  | _ => none }
def streakPlaysRow : OpenClaim := { program := "ytfgkgeeldmmfjaa", sum := "7afa8a133a491d7e09a73b7c87521551eec31cdd117fa37ca34f10ff31712ada", func := "spigot/spigotlaw07.StreakPlays", spec := "streakPlays", apart := false }
def StreakPlaysSaid : Prop := streakPlaysRow.holds Try.pinned (OpenSpec.ofChange streakPlaysSpec)

/-- ITS FALSE NEIGHBOUR: 'it returns false'. Refute it at one input. -/
def streakPlaysWrong : ChangeSpec := { name := "streakPlays", fn := fun _ => fun
  | [d1, d2] => { results := [.lit (.bool false)], args := [d1, d2] }
  | _ => none }
def StreakPlaysWrongFalsely : Prop := streakPlaysRow.holds Try.pinned (OpenSpec.ofChange streakPlaysWrong)

/-- 'spigotlaw07.StreakNone': WHATEVER THE INPUT: true; the input reads as it did. -/
def streakNoneSpec : ChangeSpec := { name := "streakNone", fn := fun _ => fun
  | [d] => { results := [.lit (.bool true)], args := [d] }
  | _ => none }
def streakNoneRow : OpenClaim := { program := "ytfgkgeeldmmfjaa", sum := "7afa8a133a491d7e09a73b7c87521551eec31cdd117fa37ca34f10ff31712ada", func := "spigot/spigotlaw07.StreakNone", spec := "streakNone", apart := false }
def StreakNoneSaid : Prop := streakNoneRow.holds Try.pinned (OpenSpec.ofChange streakNoneSpec)

/-- ITS FALSE NEIGHBOUR: 'it returns false'. Refute it at one input. -/
def streakNoneWrong : ChangeSpec := { name := "streakNone", fn := fun _ => fun
  | [d] => { results := [.lit (.bool false)], args := [d] }
  | _ => none }
def StreakNoneWrongFalsely : Prop := streakNoneRow.holds Try.pinned (OpenSpec.ofChange streakNoneWrong)

/-- 'spigotlaw07.StreakTrips': WHATEVER THE INPUT: true; the input reads as it did. -/
def streakTripsSpec : ChangeSpec := { name := "streakTrips", fn := fun _ => fun
  | [d1, d2, d3] => { results := [.lit (.bool true)], args := [d1, d2, d3] }
  | _ => none }
def streakTripsRow : OpenClaim := { program := "ytfgkgeeldmmfjaa", sum := "7afa8a133a491d7e09a73b7c87521551eec31cdd117fa37ca34f10ff31712ada", func := "spigot/spigotlaw07.StreakTrips", spec := "streakTrips", apart := false }
def StreakTripsSaid : Prop := streakTripsRow.holds Try.pinned (OpenSpec.ofChange streakTripsSpec)

/-- ITS FALSE NEIGHBOUR: 'it returns false'. Refute it at one input. -/
def streakTripsWrong : ChangeSpec := { name := "streakTrips", fn := fun _ => fun
  | [d1, d2, d3] => { results := [.lit (.bool false)], args := [d1, d2, d3] }
  | _ => none }
def StreakTripsWrongFalsely : Prop := streakTripsRow.holds Try.pinned (OpenSpec.ofChange streakTripsWrong)

/- THE SECOND FORM. 'bulk': how many values and letters a reading holds, each counted each time it is reached (what is shared counts as often as it is met; a slice's spare places count too). A statement '..UptoSaid' is the law's where the arguments, and the package variables that the reading takes, are together of bulk at most 1048576: NARROWER than '..Said'. Prove '..Said' where nothing that the law and all that it calls make is longer than what came in: it says more and counts as full. Else prove '..UptoSaid'. A law counts once. -/
mutual
def uptoBulk {H : Type} : DataW H → Nat
  | .lit (.string bytes) => bytes.length + 1
  | .lit _ => 1
  | .nil => 1
  | .ptr d => uptoBulk d + 1
  | .slice elems spare => uptoBulkAll elems + uptoBulkAll spare + 1
  | .agg parts => uptoBulkAll parts + 1
  | .iface _ d => uptoBulk d + 1
  | .map entries => uptoBulkEntries entries + 1
  | .held _ => 1
def uptoBulkAll {H : Type} : List (DataW H) → Nat
  | [] => 0
  | d :: r => uptoBulk d + uptoBulkAll r
def uptoBulkEntries {H : Type} : List (Lit × DataW H) → Nat
  | [] => 0
  | x :: r => uptoBulkEntry x + uptoBulkEntries r
def uptoBulkEntry {H : Type} : Lit × DataW H → Nat
  | (.string bytes, d) => bytes.length + uptoBulk d + 1
  | (_, d) => uptoBulk d + 1
 end
def uptoSmall : (H : Type) → List (DataW H) → Bool := fun _ ds => decide (uptoBulkAll ds ≤ 1048576)
def OpenSpec.upto (s : _root_.Go.ChangeSpec) : _root_.Go.OpenSpec := { _root_.Go.OpenSpec.ofChange s with cond := some uptoSmall }

/-- 'spigotlaw07.StreakPlays', WHERE WHAT IT READS IS OF BULK AT MOST 1048576: true; the input reads as it did. -/
def streakPlaysUptoRow : OpenClaim := { program := "ytfgkgeeldmmfjaa", sum := "7afa8a133a491d7e09a73b7c87521551eec31cdd117fa37ca34f10ff31712ada", func := "spigot/spigotlaw07.StreakPlays", spec := "streakPlays", apart := false, narrowed := true }
def StreakPlaysUptoSaid : Prop := streakPlaysUptoRow.holds Try.pinned (OpenSpec.upto streakPlaysSpec)

/-- 'spigotlaw07.StreakNone', WHERE WHAT IT READS IS OF BULK AT MOST 1048576: true; the input reads as it did. -/
def streakNoneUptoRow : OpenClaim := { program := "ytfgkgeeldmmfjaa", sum := "7afa8a133a491d7e09a73b7c87521551eec31cdd117fa37ca34f10ff31712ada", func := "spigot/spigotlaw07.StreakNone", spec := "streakNone", apart := false, narrowed := true }
def StreakNoneUptoSaid : Prop := streakNoneUptoRow.holds Try.pinned (OpenSpec.upto streakNoneSpec)

/-- 'spigotlaw07.StreakTrips', WHERE WHAT IT READS IS OF BULK AT MOST 1048576: true; the input reads as it did. -/
def streakTripsUptoRow : OpenClaim := { program := "ytfgkgeeldmmfjaa", sum := "7afa8a133a491d7e09a73b7c87521551eec31cdd117fa37ca34f10ff31712ada", func := "spigot/spigotlaw07.StreakTrips", spec := "streakTrips", apart := false, narrowed := true }
def StreakTripsUptoSaid : Prop := streakTripsUptoRow.holds Try.pinned (OpenSpec.upto streakTripsSpec)

end Rows
end Go.Proofs.Ytfgkgeeldmmfjaa
