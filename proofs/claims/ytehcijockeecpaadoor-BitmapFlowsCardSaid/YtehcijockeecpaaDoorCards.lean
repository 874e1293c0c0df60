/-
  DERIVED. GIVEN WITH THE SEED: THE CARDS: each row of YtehcijockeecpaaDoorRows.lean that lists a variable, with what it lists TIED to the program's text (the seventh form; the later family's looks); each row that meets fmt, with fmt's text TOLD by the authors' own Lean function (tested against real Go, not proved from fmt's source: count such statements apart). THE CARD IS WHAT COUNTS. Prove the row's statement (the work); the ties are given (YtehcijockeecpaaDoorTie.lean); close each card by the builder's one call (the guide's Derived/Test/ToyasCard.lean, 'card_holds'). Laid BY PROGRAM, IN A SANDBOX (cutbox-door.mjs). By AI agents, Wed Nov 11 2026. No macro, syntax, notation, axiom, sorry.
-/
import Derived.Test.YtehcijockeecpaaDoorRows
import GoSem.ClaimSeven
namespace Go.Proofs.YtehcijockeecpaaDoor
namespace Rows

/-- THE TIED CARD OF 'wicketgatelaw07.BitmapFlows'. -/
def bitmapFlowsCard : Claim7 := { stood := { row := bitmapFlowsRow, standIns := [], harness := (true, "7b643f76ff5f4a51c5ae3d4f1661b28e461e89393e3c466cb169d8d028cac231"), looks := false }, kinds := [], alts := [], laidByText := true, laidKinds := [.data, .data], laidTests := true, laidLooks := .later }
def BitmapFlowsCardSaid : Prop := Claim7.holds Tryd.pinned (.plain (OpenSpec.ofChange bitmapFlowsSpec)) bitmapFlowsCard

/-- THE TIED CARD OF 'wicketgatelaw07.BitmapBits'. -/
def bitmapBitsCard : Claim7 := { stood := { row := bitmapBitsRow, standIns := [], harness := (true, "7b643f76ff5f4a51c5ae3d4f1661b28e461e89393e3c466cb169d8d028cac231"), looks := false }, kinds := [], alts := [], laidByText := true, laidKinds := [.data, .data], laidTests := true, laidLooks := .later }
def BitmapBitsCardSaid : Prop := Claim7.holds Tryd.pinned (.plain (OpenSpec.ofChange bitmapBitsSpec)) bitmapBitsCard

/-- THE SECOND FORM's CARD OF 'wicketgatelaw07.BitmapFlows'. -/
def bitmapFlowsUptoCard : Claim7 := { stood := { row := bitmapFlowsUptoRow, standIns := [], harness := (true, "7b643f76ff5f4a51c5ae3d4f1661b28e461e89393e3c466cb169d8d028cac231"), looks := false }, kinds := [], alts := [], laidByText := true, laidKinds := [.data, .data], laidTests := true, laidLooks := .later }
def BitmapFlowsUptoCardSaid : Prop := Claim7.holds Tryd.pinned (.plain (OpenSpec.upto bitmapFlowsSpec)) bitmapFlowsUptoCard

/-- THE SECOND FORM's CARD OF 'wicketgatelaw07.BitmapBits'. -/
def bitmapBitsUptoCard : Claim7 := { stood := { row := bitmapBitsUptoRow, standIns := [], harness := (true, "7b643f76ff5f4a51c5ae3d4f1661b28e461e89393e3c466cb169d8d028cac231"), looks := false }, kinds := [], alts := [], laidByText := true, laidKinds := [.data, .data], laidTests := true, laidLooks := .later }
def BitmapBitsUptoCardSaid : Prop := Claim7.holds Tryd.pinned (.plain (OpenSpec.upto bitmapBitsSpec)) bitmapBitsUptoCard
end Rows
end Go.Proofs.YtehcijockeecpaaDoor
