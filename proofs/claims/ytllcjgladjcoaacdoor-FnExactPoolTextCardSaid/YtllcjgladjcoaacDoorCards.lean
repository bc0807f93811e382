/-
  DERIVED. GIVEN WITH THE SEED: THE CARDS: each row of YtllcjgladjcoaacDoorRows.lean that lists a variable, with what it lists TIED to the program's text (the seventh form; the later family's looks); each row that meets fmt, with fmt's text TOLD by the authors' own Lean function (tested against real Go, not proved from fmt's source: count such statements apart). THE CARD IS WHAT COUNTS. Prove the row's statement (the work); the ties are given (YtllcjgladjcoaacDoorTie.lean); close each card by the builder's one call (the guide's Derived/Test/ToyasCard.lean, 'card_holds'). Laid BY PROGRAM, IN A SANDBOX (cutbox-door.mjs). By AI agents, Wed Nov 11 2026. No macro, syntax, notation, axiom, sorry.
-/
import Derived.Test.YtllcjgladjcoaacDoorRows
import GoSem.ClaimSeven
namespace Go.Proofs.YtllcjgladjcoaacDoor
namespace Rows

/-- THE TIED CARD OF 'laws.FnExactPoolText'. -/
def fnExactPoolTextCard : Claim7 := { stood := { row := fnExactPoolTextRow, standIns := [], harness := (true, "0df0bc70666258d897140d618f899c884e1ca7c47715a15509c61cbb804642fa"), looks := true }, kinds := [], alts := [], laidByText := true, laidKinds := [.data, .data, .data], laidTests := true, laidLooks := .later }
def FnExactPoolTextCardSaid : Prop := Claim7.holds Tryd.pinned (.plain (OpenSpec.ofChange fnExactPoolTextSpec)) fnExactPoolTextCard

/-- THE TIED CARD OF 'laws.FnExactParsePool'. -/
def fnExactParsePoolCard : Claim7 := { stood := { row := fnExactParsePoolRow, standIns := [], harness := (true, "0df0bc70666258d897140d618f899c884e1ca7c47715a15509c61cbb804642fa"), looks := true }, kinds := [], alts := [], laidByText := true, laidKinds := [.data, .data, .data, .sentinel, .sentinel], laidTests := true, laidLooks := .later }
def FnExactParsePoolCardSaid : Prop := Claim7.holds Tryd.pinned (.plain (OpenSpec.ofChange fnExactParsePoolSpec)) fnExactParsePoolCard

/-- THE SECOND FORM's CARD OF 'laws.FnExactPoolText'. -/
def fnExactPoolTextUptoCard : Claim7 := { stood := { row := fnExactPoolTextUptoRow, standIns := [], harness := (true, "0df0bc70666258d897140d618f899c884e1ca7c47715a15509c61cbb804642fa"), looks := true }, kinds := [], alts := [], laidByText := true, laidKinds := [.data, .data, .data], laidTests := true, laidLooks := .later }
def FnExactPoolTextUptoCardSaid : Prop := Claim7.holds Tryd.pinned (.plain (OpenSpec.upto fnExactPoolTextSpec)) fnExactPoolTextUptoCard

/-- THE SECOND FORM's CARD OF 'laws.FnExactParsePool'. -/
def fnExactParsePoolUptoCard : Claim7 := { stood := { row := fnExactParsePoolUptoRow, standIns := [], harness := (true, "0df0bc70666258d897140d618f899c884e1ca7c47715a15509c61cbb804642fa"), looks := true }, kinds := [], alts := [], laidByText := true, laidKinds := [.data, .data, .data, .sentinel, .sentinel], laidTests := true, laidLooks := .later }
def FnExactParsePoolUptoCardSaid : Prop := Claim7.holds Tryd.pinned (.plain (OpenSpec.upto fnExactParsePoolSpec)) fnExactParsePoolUptoCard
end Rows
end Go.Proofs.YtllcjgladjcoaacDoor
