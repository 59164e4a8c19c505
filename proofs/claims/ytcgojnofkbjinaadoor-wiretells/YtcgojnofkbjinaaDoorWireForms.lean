/-
  What was formed of fields is fields.
-/
import Derived.Test.YtcgojnofkbjinaaDoorTagLaws
import Derived.Test.YtcgojnofkbjinaaDoorTagForms
namespace Go.Proofs.YtcgojnofkbjinaaDoor
open Go.Lib

theorem forms_fields {L : List Fd} {x : List UInt8} (h : formsE L = (x, 0)) : (fieldsL x).2.2 = 0 := by
  obtain ⟨h1, h2, rfl⟩ := forms_inv h
  unfold fieldsL
  rw [fieldsA_back L 64 [] 0 h2 h1]
end Go.Proofs.YtcgojnofkbjinaaDoor
