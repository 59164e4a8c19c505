/-
  No cell of these rows narrows 'for every input' (looked for: loops, veiled, ifaces, maps, wideKeys, modest, calm, conditions, laid).
  DERIVED. THE GIVEN ROWS OF THIS SEAT. 3 by the template 'for every input the law returns true; each argument reads behind the call as it read before'; 0 by the template 'total and deterministic' (their statements: YtbbocekijkpjnaaTotals.lean).
  GIVEN WITH THE SEED: the statements are not yours to turn. If you find one false, say at which input.
  Laid BY PROGRAM, IN A SANDBOX (cutbox-rows.mjs): the forced cells as the released guide's own fill.sh prints them over the translation 258eca649b2a465d… (all of the seat's roots in one cut). By AI agents, Wed Nov 11 2026. No macro, syntax, notation, axiom, sorry.
-/
import Derived.Test.YtbbocekijkpjnaaChecked
import GoSem.Claim
import GoSem.ClaimJoined
import GoSem.ClaimMapViews
import Derived.JoinedTies
import Derived.KernelRfl
namespace Go.Proofs.Ytbbocekijkpjnaa
/- THE CELL 'sum', in the pinned program and in every row, IS THE sha256 OF THE DUMP (.gsa) THAT YtbbocekijkpjnaaProg.lean LOADS. Nothing in Lean hashes anything: it is a label: what it is worth is what the hold of that sum in a sandbox is worth. -/
noncomputable def Try.pinned : Pinned := { name := "ytbbocekijkpjnaa", sum := "258eca649b2a465d65203eb7584f3b71ede87a525aaff93a4c9dab083a0fe64e", checked := Try.checked }
namespace Rows
def none {H : Type} : Left H := { results := [], args := [] }

/-- 'spigotlaw11.BodyNumbers': WHATEVER THE INPUT: true; the input reads as it did. -/
def bodyNumbersSpec : ChangeSpec := { name := "bodyNumbers", fn := fun _ => fun
  | [d] => { results := [.lit (.bool true)], args := [d] }
  | _ => none }
def bodyNumbersRow : OpenClaim := { program := "ytbbocekijkpjnaa", sum := "258eca649b2a465d65203eb7584f3b71ede87a525aaff93a4c9dab083a0fe64e", func := "spigot/spigotlaw11.BodyNumbers", spec := "bodyNumbers", inPlace := ["internal/bytealg.IndexByteString", "internal/bytealg.IndexString"], unfollowed := true, recurses := true, named := ["internal/bytealg.MaxLen"], apart := false }
def BodyNumbersSaid : Prop := bodyNumbersRow.holds Try.pinned (OpenSpec.ofChange bodyNumbersSpec)

/-- ITS FALSE NEIGHBOUR: 'it returns false'. Refute it at one input. -/
def bodyNumbersWrong : ChangeSpec := { name := "bodyNumbers", fn := fun _ => fun
  | [d] => { results := [.lit (.bool false)], args := [d] }
  | _ => none }
def BodyNumbersWrongFalsely : Prop := bodyNumbersRow.holds Try.pinned (OpenSpec.ofChange bodyNumbersWrong)

/-- 'spigotlaw11.BodyNone': WHATEVER THE INPUT: true; the input reads as it did. -/
def bodyNoneSpec : ChangeSpec := { name := "bodyNone", fn := fun _ => fun
  | [d] => { results := [.lit (.bool true)], args := [d] }
  | _ => none }
def bodyNoneRow : OpenClaim := { program := "ytbbocekijkpjnaa", sum := "258eca649b2a465d65203eb7584f3b71ede87a525aaff93a4c9dab083a0fe64e", func := "spigot/spigotlaw11.BodyNone", spec := "bodyNone", inPlace := ["internal/bytealg.IndexByteString", "internal/bytealg.IndexString"], unfollowed := true, recurses := true, named := ["internal/bytealg.MaxLen"], apart := false }
def BodyNoneSaid : Prop := bodyNoneRow.holds Try.pinned (OpenSpec.ofChange bodyNoneSpec)

/-- ITS FALSE NEIGHBOUR: 'it returns false'. Refute it at one input. -/
def bodyNoneWrong : ChangeSpec := { name := "bodyNone", fn := fun _ => fun
  | [d] => { results := [.lit (.bool false)], args := [d] }
  | _ => none }
def BodyNoneWrongFalsely : Prop := bodyNoneRow.holds Try.pinned (OpenSpec.ofChange bodyNoneWrong)

/-- 'spigotlaw11.BodyDigits': WHATEVER THE INPUT: true; the input reads as it did. -/
def bodyDigitsSpec : ChangeSpec := { name := "bodyDigits", fn := fun _ => fun
  | [d] => { results := [.lit (.bool true)], args := [d] }
  | _ => none }
def bodyDigitsRow : OpenClaim := { program := "ytbbocekijkpjnaa", sum := "258eca649b2a465d65203eb7584f3b71ede87a525aaff93a4c9dab083a0fe64e", func := "spigot/spigotlaw11.BodyDigits", spec := "bodyDigits", inPlace := ["internal/bytealg.IndexByteString", "internal/bytealg.IndexString"], unfollowed := true, recurses := true, named := ["internal/bytealg.MaxLen"], apart := false }
def BodyDigitsSaid : Prop := bodyDigitsRow.holds Try.pinned (OpenSpec.ofChange bodyDigitsSpec)

/-- ITS FALSE NEIGHBOUR: 'it returns false'. Refute it at one input. -/
def bodyDigitsWrong : ChangeSpec := { name := "bodyDigits", fn := fun _ => fun
  | [d] => { results := [.lit (.bool false)], args := [d] }
  | _ => none }
def BodyDigitsWrongFalsely : Prop := bodyDigitsRow.holds Try.pinned (OpenSpec.ofChange bodyDigitsWrong)

/- THE SECOND FORM. 'bulk': how many values and letters a reading holds, each counted each time it is reached (what is shared counts as often as it is met; a slice's spare places count too). A statement '..UptoSaid' is the law's where the arguments, and the package variables that the reading takes, are together of bulk at most 1048576: NARROWER than '..Said'. Prove '..Said' where nothing that the law and all that it calls make is longer than what came in: it says more and counts as full. Else prove '..UptoSaid'. A law counts once. -/
mutual
def uptoBulk {H : Type} : DataW H → Nat
  | .lit (.string bytes) => bytes.length + 1
  | .lit _ => 1
  | .nil => 1
  | .ptr d => uptoBulk d + 1
  | .slice elems spare => uptoBulkAll elems + uptoBulkAll spare + 1
  | .agg parts => uptoBulkAll parts + 1
  | .iface _ d => uptoBulk d + 1
  | .map entries => uptoBulkEntries entries + 1
  | .held _ => 1
def uptoBulkAll {H : Type} : List (DataW H) → Nat
  | [] => 0
  | d :: r => uptoBulk d + uptoBulkAll r
def uptoBulkEntries {H : Type} : List (Lit × DataW H) → Nat
  | [] => 0
  | x :: r => uptoBulkEntry x + uptoBulkEntries r
def uptoBulkEntry {H : Type} : Lit × DataW H → Nat
  | (.string bytes, d) => bytes.length + uptoBulk d + 1
  | (_, d) => uptoBulk d + 1
 end
def uptoSmall : (H : Type) → List (DataW H) → Bool := fun _ ds => decide (uptoBulkAll ds ≤ 1048576)
def OpenSpec.upto (s : _root_.Go.ChangeSpec) : _root_.Go.OpenSpec := { _root_.Go.OpenSpec.ofChange s with cond := some uptoSmall }

/-- 'spigotlaw11.BodyNumbers', WHERE WHAT IT READS IS OF BULK AT MOST 1048576: true; the input reads as it did. -/
def bodyNumbersUptoRow : OpenClaim := { program := "ytbbocekijkpjnaa", sum := "258eca649b2a465d65203eb7584f3b71ede87a525aaff93a4c9dab083a0fe64e", func := "spigot/spigotlaw11.BodyNumbers", spec := "bodyNumbers", inPlace := ["internal/bytealg.IndexByteString", "internal/bytealg.IndexString"], unfollowed := true, recurses := true, named := ["internal/bytealg.MaxLen"], apart := false, narrowed := true }
def BodyNumbersUptoSaid : Prop := bodyNumbersUptoRow.holds Try.pinned (OpenSpec.upto bodyNumbersSpec)

/-- 'spigotlaw11.BodyNone', WHERE WHAT IT READS IS OF BULK AT MOST 1048576: true; the input reads as it did. -/
def bodyNoneUptoRow : OpenClaim := { program := "ytbbocekijkpjnaa", sum := "258eca649b2a465d65203eb7584f3b71ede87a525aaff93a4c9dab083a0fe64e", func := "spigot/spigotlaw11.BodyNone", spec := "bodyNone", inPlace := ["internal/bytealg.IndexByteString", "internal/bytealg.IndexString"], unfollowed := true, recurses := true, named := ["internal/bytealg.MaxLen"], apart := false, narrowed := true }
def BodyNoneUptoSaid : Prop := bodyNoneUptoRow.holds Try.pinned (OpenSpec.upto bodyNoneSpec)

/-- 'spigotlaw11.BodyDigits', WHERE WHAT IT READS IS OF BULK AT MOST 1048576: true; the input reads as it did. -/
def bodyDigitsUptoRow : OpenClaim := { program := "ytbbocekijkpjnaa", sum := "258eca649b2a465d65203eb7584f3b71ede87a525aaff93a4c9dab083a0fe64e", func := "spigot/spigotlaw11.BodyDigits", spec := "bodyDigits", inPlace := ["internal/bytealg.IndexByteString", "internal/bytealg.IndexString"], unfollowed := true, recurses := true, named := ["internal/bytealg.MaxLen"], apart := false, narrowed := true }
def BodyDigitsUptoSaid : Prop := bodyDigitsUptoRow.holds Try.pinned (OpenSpec.upto bodyDigitsSpec)

end Rows
end Go.Proofs.Ytbbocekijkpjnaa
