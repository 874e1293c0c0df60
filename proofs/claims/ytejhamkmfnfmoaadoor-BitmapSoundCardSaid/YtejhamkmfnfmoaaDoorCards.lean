/-
  DERIVED. GIVEN WITH THE SEED: THE CARDS: each row of YtejhamkmfnfmoaaDoorRows.lean that lists a variable, with what it lists TIED to the program's text (the seventh form; the later family's looks); each row that meets fmt, with fmt's text TOLD by the authors' own Lean function (tested against real Go, not proved from fmt's source: count such statements apart). THE CARD IS WHAT COUNTS. Prove the row's statement (the work); the ties are given (YtejhamkmfnfmoaaDoorTie.lean); close each card by the builder's one call (the guide's Derived/Test/ToyasCard.lean, 'card_holds'). Laid BY PROGRAM, IN A SANDBOX (cutbox-door.mjs). By AI agents, Wed Nov 11 2026. No macro, syntax, notation, axiom, sorry.
-/
import Derived.Test.YtejhamkmfnfmoaaDoorRows
import GoSem.ClaimSeven
namespace Go.Proofs.YtejhamkmfnfmoaaDoor
namespace Rows

/-- THE TIED CARD OF 'wicketgatelaw07.BitmapFits'. -/
def bitmapFitsCard : Claim7 := { stood := { row := bitmapFitsRow, standIns := [], harness := (true, "048d397ed4546180687ea670f28e11b980639d751a196e58c00caa137f1fb42d"), looks := false }, kinds := [], alts := [], laidByText := true, laidKinds := [.data, .data], laidTests := true, laidLooks := .later }
def BitmapFitsCardSaid : Prop := Claim7.holds Tryd.pinned (.plain (OpenSpec.ofChange bitmapFitsSpec)) bitmapFitsCard

/-- THE TIED CARD OF 'wicketgatelaw07.BitmapFlows'. -/
def bitmapFlowsCard : Claim7 := { stood := { row := bitmapFlowsRow, standIns := [], harness := (true, "048d397ed4546180687ea670f28e11b980639d751a196e58c00caa137f1fb42d"), looks := false }, kinds := [], alts := [], laidByText := true, laidKinds := [.data, .data], laidTests := true, laidLooks := .later }
def BitmapFlowsCardSaid : Prop := Claim7.holds Tryd.pinned (.plain (OpenSpec.ofChange bitmapFlowsSpec)) bitmapFlowsCard

/-- THE TIED CARD OF 'wicketgatelaw07.BitmapBits'. -/
def bitmapBitsCard : Claim7 := { stood := { row := bitmapBitsRow, standIns := [], harness := (true, "048d397ed4546180687ea670f28e11b980639d751a196e58c00caa137f1fb42d"), looks := false }, kinds := [], alts := [], laidByText := true, laidKinds := [.data, .data], laidTests := true, laidLooks := .later }
def BitmapBitsCardSaid : Prop := Claim7.holds Tryd.pinned (.plain (OpenSpec.ofChange bitmapBitsSpec)) bitmapBitsCard

/-- THE TIED CARD OF 'wicketgatelaw07.BitmapSound'. -/
def bitmapSoundCard : Claim7 := { stood := { row := bitmapSoundRow, standIns := [], harness := (true, "048d397ed4546180687ea670f28e11b980639d751a196e58c00caa137f1fb42d"), looks := false }, kinds := [], alts := [], laidByText := true, laidKinds := [.data, .data], laidTests := true, laidLooks := .later }
def BitmapSoundCardSaid : Prop := Claim7.holds Tryd.pinned (.plain (OpenSpec.ofChange bitmapSoundSpec)) bitmapSoundCard

/-- THE SECOND FORM's CARD OF 'wicketgatelaw07.BitmapFits'. -/
def bitmapFitsUptoCard : Claim7 := { stood := { row := bitmapFitsUptoRow, standIns := [], harness := (true, "048d397ed4546180687ea670f28e11b980639d751a196e58c00caa137f1fb42d"), looks := false }, kinds := [], alts := [], laidByText := true, laidKinds := [.data, .data], laidTests := true, laidLooks := .later }
def BitmapFitsUptoCardSaid : Prop := Claim7.holds Tryd.pinned (.plain (OpenSpec.upto bitmapFitsSpec)) bitmapFitsUptoCard

/-- THE SECOND FORM's CARD OF 'wicketgatelaw07.BitmapFlows'. -/
def bitmapFlowsUptoCard : Claim7 := { stood := { row := bitmapFlowsUptoRow, standIns := [], harness := (true, "048d397ed4546180687ea670f28e11b980639d751a196e58c00caa137f1fb42d"), looks := false }, kinds := [], alts := [], laidByText := true, laidKinds := [.data, .data], laidTests := true, laidLooks := .later }
def BitmapFlowsUptoCardSaid : Prop := Claim7.holds Tryd.pinned (.plain (OpenSpec.upto bitmapFlowsSpec)) bitmapFlowsUptoCard

/-- THE SECOND FORM's CARD OF 'wicketgatelaw07.BitmapBits'. -/
def bitmapBitsUptoCard : Claim7 := { stood := { row := bitmapBitsUptoRow, standIns := [], harness := (true, "048d397ed4546180687ea670f28e11b980639d751a196e58c00caa137f1fb42d"), looks := false }, kinds := [], alts := [], laidByText := true, laidKinds := [.data, .data], laidTests := true, laidLooks := .later }
def BitmapBitsUptoCardSaid : Prop := Claim7.holds Tryd.pinned (.plain (OpenSpec.upto bitmapBitsSpec)) bitmapBitsUptoCard

/-- THE SECOND FORM's CARD OF 'wicketgatelaw07.BitmapSound'. -/
def bitmapSoundUptoCard : Claim7 := { stood := { row := bitmapSoundUptoRow, standIns := [], harness := (true, "048d397ed4546180687ea670f28e11b980639d751a196e58c00caa137f1fb42d"), looks := false }, kinds := [], alts := [], laidByText := true, laidKinds := [.data, .data], laidTests := true, laidLooks := .later }
def BitmapSoundUptoCardSaid : Prop := Claim7.holds Tryd.pinned (.plain (OpenSpec.upto bitmapSoundSpec)) bitmapSoundUptoCard
end Rows
end Go.Proofs.YtejhamkmfnfmoaaDoor
