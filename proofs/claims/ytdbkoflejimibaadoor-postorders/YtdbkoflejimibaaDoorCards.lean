/-
  DERIVED. GIVEN WITH THE SEED: THE CARDS: each row of YtdbkoflejimibaaDoorRows.lean that lists a variable, with what it lists TIED to the program's text (the seventh form; the later family's looks); each row that meets fmt, with fmt's text TOLD by the authors' own Lean function (tested against real Go, not proved from fmt's source: count such statements apart). THE CARD IS WHAT COUNTS. Prove the row's statement (the work); the ties are given (YtdbkoflejimibaaDoorTie.lean); close each card by the builder's one call (the guide's Derived/Test/ToyasCard.lean, 'card_holds'). Laid BY PROGRAM, IN A SANDBOX (cutbox-door.mjs). By AI agents, Wed Nov 11 2026. No macro, syntax, notation, axiom, sorry.
-/
import Derived.Test.YtdbkoflejimibaaDoorRows
import GoSem.ClaimSeven
namespace Go.Proofs.YtdbkoflejimibaaDoor
namespace Rows

/-- THE TIED CARD OF 'spigotlaw14.PostOrders'. -/
def postOrdersCard : Claim7 := { stood := { row := postOrdersRow, standIns := [], harness := (true, "58b338b853963d23f7337613b88076cb999d9533a4d2cc9c003ae0672d377ce3"), looks := false }, kinds := [], alts := [], laidByText := true, laidKinds := [.data, .data, .data, .data, .data], laidTests := true, laidLooks := .later }
def PostOrdersCardSaid : Prop := Claim7.holds Tryd.pinned (.plain (OpenSpec.ofChange postOrdersSpec)) postOrdersCard

/-- THE TIED CARD OF 'spigotlaw14.PostReplies'. -/
def postRepliesCard : Claim7 := { stood := { row := postRepliesRow, standIns := [], harness := (true, "58b338b853963d23f7337613b88076cb999d9533a4d2cc9c003ae0672d377ce3"), looks := false }, kinds := [], alts := [], laidByText := true, laidKinds := [.data, .data, .data, .data, .data], laidTests := true, laidLooks := .later }
def PostRepliesCardSaid : Prop := Claim7.holds Tryd.pinned (.plain (OpenSpec.ofChange postRepliesSpec)) postRepliesCard

/-- THE TIED CARD OF 'spigotlaw14.PostBack'. -/
def postBackCard : Claim7 := { stood := { row := postBackRow, standIns := [], harness := (true, "58b338b853963d23f7337613b88076cb999d9533a4d2cc9c003ae0672d377ce3"), looks := false }, kinds := [], alts := [], laidByText := true, laidKinds := [.data, .data, .data, .data, .data], laidTests := true, laidLooks := .later }
def PostBackCardSaid : Prop := Claim7.holds Tryd.pinned (.plain (OpenSpec.ofChange postBackSpec)) postBackCard

/-- THE TIED CARD OF 'spigotlaw14.PostSound'. -/
def postSoundCard : Claim7 := { stood := { row := postSoundRow, standIns := [], harness := (true, "58b338b853963d23f7337613b88076cb999d9533a4d2cc9c003ae0672d377ce3"), looks := false }, kinds := [], alts := [], laidByText := true, laidKinds := [.data, .data, .data, .data, .data], laidTests := true, laidLooks := .later }
def PostSoundCardSaid : Prop := Claim7.holds Tryd.pinned (.plain (OpenSpec.ofChange postSoundSpec)) postSoundCard

/-- THE SECOND FORM's CARD OF 'spigotlaw14.PostOrders'. -/
def postOrdersUptoCard : Claim7 := { stood := { row := postOrdersUptoRow, standIns := [], harness := (true, "58b338b853963d23f7337613b88076cb999d9533a4d2cc9c003ae0672d377ce3"), looks := false }, kinds := [], alts := [], laidByText := true, laidKinds := [.data, .data, .data, .data, .data], laidTests := true, laidLooks := .later }
def PostOrdersUptoCardSaid : Prop := Claim7.holds Tryd.pinned (.plain (OpenSpec.upto postOrdersSpec)) postOrdersUptoCard

/-- THE SECOND FORM's CARD OF 'spigotlaw14.PostReplies'. -/
def postRepliesUptoCard : Claim7 := { stood := { row := postRepliesUptoRow, standIns := [], harness := (true, "58b338b853963d23f7337613b88076cb999d9533a4d2cc9c003ae0672d377ce3"), looks := false }, kinds := [], alts := [], laidByText := true, laidKinds := [.data, .data, .data, .data, .data], laidTests := true, laidLooks := .later }
def PostRepliesUptoCardSaid : Prop := Claim7.holds Tryd.pinned (.plain (OpenSpec.upto postRepliesSpec)) postRepliesUptoCard

/-- THE SECOND FORM's CARD OF 'spigotlaw14.PostBack'. -/
def postBackUptoCard : Claim7 := { stood := { row := postBackUptoRow, standIns := [], harness := (true, "58b338b853963d23f7337613b88076cb999d9533a4d2cc9c003ae0672d377ce3"), looks := false }, kinds := [], alts := [], laidByText := true, laidKinds := [.data, .data, .data, .data, .data], laidTests := true, laidLooks := .later }
def PostBackUptoCardSaid : Prop := Claim7.holds Tryd.pinned (.plain (OpenSpec.upto postBackSpec)) postBackUptoCard

/-- THE SECOND FORM's CARD OF 'spigotlaw14.PostSound'. -/
def postSoundUptoCard : Claim7 := { stood := { row := postSoundUptoRow, standIns := [], harness := (true, "58b338b853963d23f7337613b88076cb999d9533a4d2cc9c003ae0672d377ce3"), looks := false }, kinds := [], alts := [], laidByText := true, laidKinds := [.data, .data, .data, .data, .data], laidTests := true, laidLooks := .later }
def PostSoundUptoCardSaid : Prop := Claim7.holds Tryd.pinned (.plain (OpenSpec.upto postSoundSpec)) postSoundUptoCard
end Rows
end Go.Proofs.YtdbkoflejimibaaDoor
