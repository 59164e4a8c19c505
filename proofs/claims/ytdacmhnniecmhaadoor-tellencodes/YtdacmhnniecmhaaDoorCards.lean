/-
  DERIVED. GIVEN WITH THE SEED: THE CARDS: each row of YtdacmhnniecmhaaDoorRows.lean that lists a variable, with what it lists TIED to the program's text (the seventh form; the later family's looks); each row that meets fmt, with fmt's text TOLD by the authors' own Lean function (tested against real Go, not proved from fmt's source: count such statements apart). THE CARD IS WHAT COUNTS. Prove the row's statement (the work); the ties are given (YtdacmhnniecmhaaDoorTie.lean); close each card by the builder's one call (the guide's Derived/Test/ToyasCard.lean, 'card_holds'). Laid BY PROGRAM, IN A SANDBOX (cutbox-door.mjs). By AI agents, Wed Nov 11 2026. No macro, syntax, notation, axiom, sorry.
-/
import Derived.Test.YtdacmhnniecmhaaDoorRows
import GoSem.ClaimSeven
namespace Go.Proofs.YtdacmhnniecmhaaDoor
namespace Rows

/-- THE TIED CARD OF 'spigotlaw13.TellEncodes'. -/
def tellEncodesCard : Claim7 := { stood := { row := tellEncodesRow, standIns := [], harness := (true, "af1f2c5223fe01a48ebd41bd0dc4ba3f24f403f8cd697045b0582b363fda2f53"), looks := false }, kinds := [], alts := [], laidByText := true, laidKinds := [.data, .data, .data, .data], laidTests := true, laidLooks := .later }
def TellEncodesCardSaid : Prop := Claim7.holds Tryd.pinned (.plain (OpenSpec.ofChange tellEncodesSpec)) tellEncodesCard

/-- THE TIED CARD OF 'spigotlaw13.TellDecodes'. -/
def tellDecodesCard : Claim7 := { stood := { row := tellDecodesRow, standIns := [], harness := (true, "af1f2c5223fe01a48ebd41bd0dc4ba3f24f403f8cd697045b0582b363fda2f53"), looks := false }, kinds := [], alts := [], laidByText := true, laidKinds := [.data, .data, .data, .data], laidTests := true, laidLooks := .later }
def TellDecodesCardSaid : Prop := Claim7.holds Tryd.pinned (.plain (OpenSpec.ofChange tellDecodesSpec)) tellDecodesCard

/-- THE TIED CARD OF 'spigotlaw13.TellBack'. -/
def tellBackCard : Claim7 := { stood := { row := tellBackRow, standIns := [], harness := (true, "af1f2c5223fe01a48ebd41bd0dc4ba3f24f403f8cd697045b0582b363fda2f53"), looks := false }, kinds := [], alts := [], laidByText := true, laidKinds := [.data, .data, .data, .data], laidTests := true, laidLooks := .later }
def TellBackCardSaid : Prop := Claim7.holds Tryd.pinned (.plain (OpenSpec.ofChange tellBackSpec)) tellBackCard

/-- THE SECOND FORM's CARD OF 'spigotlaw13.TellEncodes'. -/
def tellEncodesUptoCard : Claim7 := { stood := { row := tellEncodesUptoRow, standIns := [], harness := (true, "af1f2c5223fe01a48ebd41bd0dc4ba3f24f403f8cd697045b0582b363fda2f53"), looks := false }, kinds := [], alts := [], laidByText := true, laidKinds := [.data, .data, .data, .data], laidTests := true, laidLooks := .later }
def TellEncodesUptoCardSaid : Prop := Claim7.holds Tryd.pinned (.plain (OpenSpec.upto tellEncodesSpec)) tellEncodesUptoCard

/-- THE SECOND FORM's CARD OF 'spigotlaw13.TellDecodes'. -/
def tellDecodesUptoCard : Claim7 := { stood := { row := tellDecodesUptoRow, standIns := [], harness := (true, "af1f2c5223fe01a48ebd41bd0dc4ba3f24f403f8cd697045b0582b363fda2f53"), looks := false }, kinds := [], alts := [], laidByText := true, laidKinds := [.data, .data, .data, .data], laidTests := true, laidLooks := .later }
def TellDecodesUptoCardSaid : Prop := Claim7.holds Tryd.pinned (.plain (OpenSpec.upto tellDecodesSpec)) tellDecodesUptoCard

/-- THE SECOND FORM's CARD OF 'spigotlaw13.TellBack'. -/
def tellBackUptoCard : Claim7 := { stood := { row := tellBackUptoRow, standIns := [], harness := (true, "af1f2c5223fe01a48ebd41bd0dc4ba3f24f403f8cd697045b0582b363fda2f53"), looks := false }, kinds := [], alts := [], laidByText := true, laidKinds := [.data, .data, .data, .data], laidTests := true, laidLooks := .later }
def TellBackUptoCardSaid : Prop := Claim7.holds Tryd.pinned (.plain (OpenSpec.upto tellBackSpec)) tellBackUptoCard
end Rows
end Go.Proofs.YtdacmhnniecmhaaDoor
