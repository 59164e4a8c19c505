/-
  DERIVED. GIVEN WITH THE SEED: THE CARDS: each row of YtdbkoflejimibaaGreatDoorRows.lean that lists a variable, with what it lists TIED to the program's text (the seventh form; the later family's looks); each row that meets fmt, with fmt's text TOLD by the authors' own Lean function (tested against real Go, not proved from fmt's source: count such statements apart). THE CARD IS WHAT COUNTS. Prove the row's statement (the work); the ties are given (YtdbkoflejimibaaGreatDoorTie.lean); close each card by the builder's one call (the guide's Derived/Test/ToyasCard.lean, 'card_holds'). Laid BY PROGRAM, IN A SANDBOX (cutbox-door.mjs). By AI agents, Wed Nov 11 2026. No macro, syntax, notation, axiom, sorry.
-/
import Derived.Test.YtdbkoflejimibaaGreatDoorRows
import GoSem.ClaimSeven
namespace Go.Proofs.YtdbkoflejimibaaGreatDoor
namespace Rows

/-- THE TIED CARD OF 'spigotlaw14.PostDecodes'. -/
def postDecodesCard : Claim7 := { stood := { row := postDecodesRow, standIns := [], harness := (true, "5ca8cfb06995d55053f0f1973dd2be77da0704cdf6dd0c4859c3f534de890bf2"), looks := false }, kinds := [], alts := [], laidByText := true, laidKinds := [.data, .data, .data, .data, .data], laidTests := true, laidLooks := .later }
def PostDecodesCardSaid : Prop := Claim7.holds Tryz.pinned (.plain (OpenSpec.ofChange postDecodesSpec)) postDecodesCard

/-- THE SECOND FORM's CARD OF 'spigotlaw14.PostDecodes'. -/
def postDecodesUptoCard : Claim7 := { stood := { row := postDecodesUptoRow, standIns := [], harness := (true, "5ca8cfb06995d55053f0f1973dd2be77da0704cdf6dd0c4859c3f534de890bf2"), looks := false }, kinds := [], alts := [], laidByText := true, laidKinds := [.data, .data, .data, .data, .data], laidTests := true, laidLooks := .later }
def PostDecodesUptoCardSaid : Prop := Claim7.holds Tryz.pinned (.plain (OpenSpec.upto postDecodesSpec)) postDecodesUptoCard
end Rows
end Go.Proofs.YtdbkoflejimibaaGreatDoor
