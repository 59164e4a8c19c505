/-
  No cell of these rows narrows 'for every input' (looked for: loops, veiled, ifaces, maps, wideKeys, modest, calm, conditions, laid).
  DERIVED. THE GIVEN ROWS OF THIS SEAT. 3 by the template 'for every input the law returns true; each argument reads behind the call as it read before'; 0 by the template 'total and deterministic' (their statements: YtkkimkhkoiempaaTotals.lean).
  GIVEN WITH THE SEED: the statements are not yours to turn. If you find one false, say at which input.
  Laid BY PROGRAM, IN A SANDBOX (cutbox-rows.mjs): the forced cells as the released guide's own fill.sh prints them over the translation cac27f6024690fd8… (all of the seat's roots in one cut). By AI agents, Wed Nov 11 2026. No macro, syntax, notation, axiom, sorry.
-/
import Derived.Test.YtkkimkhkoiempaaChecked
import GoSem.Claim
import GoSem.ClaimJoined
import GoSem.ClaimMapViews
import Derived.JoinedTies
import Derived.KernelRfl
namespace Go.Proofs.Ytkkimkhkoiempaa
/- THE CELL 'sum', in the pinned program and in every row, IS THE sha256 OF THE DUMP (.gsa) THAT YtkkimkhkoiempaaProg.lean LOADS. Nothing in Lean hashes anything: it is a label: what it is worth is what the hold of that sum in a sandbox is worth. -/
noncomputable def Try.pinned : Pinned := { name := "ytkkimkhkoiempaa", sum := "cac27f6024690fd869596153111ae6afa3c77aa2e519de3be5d5d8e8711103e8", checked := Try.checked }
namespace Rows
def none {H : Type} : Left H := { results := [], args := [] }

/-- 'spigotlaw21.ChildPlays': WHATEVER THE INPUT: true; the input reads as it did. -/
def childPlaysSpec : ChangeSpec := { name := "childPlays", fn := fun _ => fun
  | [d1, d2] => { results := [.lit (.bool true)], args := [d1, d2] }
  | _ => none }
def childPlaysRow : OpenClaim := { program := "ytkkimkhkoiempaa", sum := "cac27f6024690fd869596153111ae6afa3c77aa2e519de3be5d5d8e8711103e8", func := "spigot/spigotlaw21.ChildPlays", spec := "childPlays", apart := false }
def ChildPlaysSaid : Prop := childPlaysRow.holds Try.pinned (OpenSpec.ofChange childPlaysSpec)

/-- ITS FALSE NEIGHBOUR: 'it returns false'. Refute it at one input. -/
def childPlaysWrong : ChangeSpec := { name := "childPlays", fn := fun _ => fun
  | [d1, d2] => { results := [.lit (.bool false)], args := [d1, d2] }
  | _ => none }
def ChildPlaysWrongFalsely : Prop := childPlaysRow.holds Try.pinned (OpenSpec.ofChange childPlaysWrong)

/-- 'spigotlaw21.ChildNone': WHATEVER THE INPUT: true; the input reads as it did. -/
def childNoneSpec : ChangeSpec := { name := "childNone", fn := fun _ => fun
  | [d] => { results := [.lit (.bool true)], args := [d] }
  | _ => none }
def childNoneRow : OpenClaim := { program := "ytkkimkhkoiempaa", sum := "cac27f6024690fd869596153111ae6afa3c77aa2e519de3be5d5d8e8711103e8", func := "spigot/spigotlaw21.ChildNone", spec := "childNone", apart := false }
def ChildNoneSaid : Prop := childNoneRow.holds Try.pinned (OpenSpec.ofChange childNoneSpec)

/-- ITS FALSE NEIGHBOUR: 'it returns false'. Refute it at one input. -/
def childNoneWrong : ChangeSpec := { name := "childNone", fn := fun _ => fun
  | [d] => { results := [.lit (.bool false)], args := [d] }
  | _ => none }
def ChildNoneWrongFalsely : Prop := childNoneRow.holds Try.pinned (OpenSpec.ofChange childNoneWrong)

/-- 'spigotlaw21.ChildBounds': WHATEVER THE INPUT: true; the input reads as it did. -/
def childBoundsSpec : ChangeSpec := { name := "childBounds", fn := fun _ => fun
  | [d1, d2] => { results := [.lit (.bool true)], args := [d1, d2] }
  | _ => none }
def childBoundsRow : OpenClaim := { program := "ytkkimkhkoiempaa", sum := "cac27f6024690fd869596153111ae6afa3c77aa2e519de3be5d5d8e8711103e8", func := "spigot/spigotlaw21.ChildBounds", spec := "childBounds", apart := false }
def ChildBoundsSaid : Prop := childBoundsRow.holds Try.pinned (OpenSpec.ofChange childBoundsSpec)

/-- ITS FALSE NEIGHBOUR: 'it returns false'. Refute it at one input. -/
def childBoundsWrong : ChangeSpec := { name := "childBounds", fn := fun _ => fun
  | [d1, d2] => { results := [.lit (.bool false)], args := [d1, d2] }
  | _ => none }
def ChildBoundsWrongFalsely : Prop := childBoundsRow.holds Try.pinned (OpenSpec.ofChange childBoundsWrong)

/- THE SECOND FORM. 'bulk': how many values and letters a reading holds, each counted each time it is reached (what is shared counts as often as it is met; a slice's spare places count too). A statement '..UptoSaid' is the law's where the arguments, and the package variables that the reading takes, are together of bulk at most 1048576: NARROWER than '..Said'. Prove '..Said' where nothing that the law and all that it calls make is longer than what came in: it says more and counts as full. Else prove '..UptoSaid'. A law counts once. -/
mutual
def uptoBulk {H : Type} : DataW H → Nat
  | .lit (.string bytes) => bytes.length + 1
  | .lit _ => 1
  | .nil => 1
  | .ptr d => uptoBulk d + 1
  | .slice elems spare => uptoBulkAll elems + uptoBulkAll spare + 1
  | .agg parts => uptoBulkAll parts + 1
  | .iface _ d => uptoBulk d + 1
  | .map entries => uptoBulkEntries entries + 1
  | .held _ => 1
def uptoBulkAll {H : Type} : List (DataW H) → Nat
  | [] => 0
  | d :: r => uptoBulk d + uptoBulkAll r
def uptoBulkEntries {H : Type} : List (Lit × DataW H) → Nat
  | [] => 0
  | x :: r => uptoBulkEntry x + uptoBulkEntries r
def uptoBulkEntry {H : Type} : Lit × DataW H → Nat
  | (.string bytes, d) => bytes.length + uptoBulk d + 1
  | (_, d) => uptoBulk d + 1
 end
def uptoSmall : (H : Type) → List (DataW H) → Bool := fun _ ds => decide (uptoBulkAll ds ≤ 1048576)
def OpenSpec.upto (s : _root_.Go.ChangeSpec) : _root_.Go.OpenSpec := { _root_.Go.OpenSpec.ofChange s with cond := some uptoSmall }

/-- 'spigotlaw21.ChildPlays', WHERE WHAT IT READS IS OF BULK AT MOST 1048576: true; the input reads as it did. -/
def childPlaysUptoRow : OpenClaim := { program := "ytkkimkhkoiempaa", sum := "cac27f6024690fd869596153111ae6afa3c77aa2e519de3be5d5d8e8711103e8", func := "spigot/spigotlaw21.ChildPlays", spec := "childPlays", apart := false, narrowed := true }
def ChildPlaysUptoSaid : Prop := childPlaysUptoRow.holds Try.pinned (OpenSpec.upto childPlaysSpec)

/-- 'spigotlaw21.ChildNone', WHERE WHAT IT READS IS OF BULK AT MOST 1048576: true; the input reads as it did. -/
def childNoneUptoRow : OpenClaim := { program := "ytkkimkhkoiempaa", sum := "cac27f6024690fd869596153111ae6afa3c77aa2e519de3be5d5d8e8711103e8", func := "spigot/spigotlaw21.ChildNone", spec := "childNone", apart := false, narrowed := true }
def ChildNoneUptoSaid : Prop := childNoneUptoRow.holds Try.pinned (OpenSpec.upto childNoneSpec)

/-- 'spigotlaw21.ChildBounds', WHERE WHAT IT READS IS OF BULK AT MOST 1048576: true; the input reads as it did. -/
def childBoundsUptoRow : OpenClaim := { program := "ytkkimkhkoiempaa", sum := "cac27f6024690fd869596153111ae6afa3c77aa2e519de3be5d5d8e8711103e8", func := "spigot/spigotlaw21.ChildBounds", spec := "childBounds", apart := false, narrowed := true }
def ChildBoundsUptoSaid : Prop := childBoundsUptoRow.holds Try.pinned (OpenSpec.upto childBoundsSpec)

end Rows
end Go.Proofs.Ytkkimkhkoiempaa
