/-
  DERIVED. GIVEN WITH THE SEED: THE CARDS: each row of YtepkhkfdokinmaaDoorRows.lean that lists a variable, with what it lists TIED to the program's text (the seventh form; the later family's looks); each row that meets fmt, with fmt's text TOLD by the authors' own Lean function (tested against real Go, not proved from fmt's source: count such statements apart). THE CARD IS WHAT COUNTS. Prove the row's statement (the work); the ties are given (YtepkhkfdokinmaaDoorTie.lean); close each card by the builder's one call (the guide's Derived/Test/ToyasCard.lean, 'card_holds'). Laid BY PROGRAM, IN A SANDBOX (cutbox-door.mjs). By AI agents, Wed Nov 11 2026. No macro, syntax, notation, axiom, sorry.
-/
import Derived.Test.YtepkhkfdokinmaaDoorRows
import GoSem.ClaimSeven
namespace Go.Proofs.YtepkhkfdokinmaaDoor
namespace Rows

/-- THE TIED CARD OF 'wicketgatelaw05.VmAlu'. -/
def vmAluCard : Claim7 := { stood := { row := vmAluRow, standIns := [], harness := (true, "3fcbd02b6f8e87b1e080fab717d05a515c573e16746f6c4b3ea5df49663f4d5d"), looks := false }, kinds := [], alts := [], laidByText := true, laidKinds := [.data], laidTests := true, laidLooks := .later }
def VmAluCardSaid : Prop := Claim7.holds Tryd.pinned (.plain (OpenSpec.ofChange vmAluSpec)) vmAluCard

/-- THE TIED CARD OF 'wicketgatelaw05.VmSteps'. -/
def vmStepsCard : Claim7 := { stood := { row := vmStepsRow, standIns := [], harness := (true, "3fcbd02b6f8e87b1e080fab717d05a515c573e16746f6c4b3ea5df49663f4d5d"), looks := false }, kinds := [], alts := [], laidByText := true, laidKinds := [.data], laidTests := true, laidLooks := .later }
def VmStepsCardSaid : Prop := Claim7.holds Tryd.pinned (.plain (OpenSpec.ofChange vmStepsSpec)) vmStepsCard

/-- THE TIED CARD OF 'wicketgatelaw05.VmRuns'. -/
def vmRunsCard : Claim7 := { stood := { row := vmRunsRow, standIns := [], harness := (true, "3fcbd02b6f8e87b1e080fab717d05a515c573e16746f6c4b3ea5df49663f4d5d"), looks := false }, kinds := [], alts := [], laidByText := true, laidKinds := [.data], laidTests := true, laidLooks := .later }
def VmRunsCardSaid : Prop := Claim7.holds Tryd.pinned (.plain (OpenSpec.ofChange vmRunsSpec)) vmRunsCard

/-- THE TIED CARD OF 'wicketgatelaw05.VmEnds'. -/
def vmEndsCard : Claim7 := { stood := { row := vmEndsRow, standIns := [], harness := (true, "3fcbd02b6f8e87b1e080fab717d05a515c573e16746f6c4b3ea5df49663f4d5d"), looks := false }, kinds := [], alts := [], laidByText := true, laidKinds := [.data], laidTests := true, laidLooks := .later }
def VmEndsCardSaid : Prop := Claim7.holds Tryd.pinned (.plain (OpenSpec.ofChange vmEndsSpec)) vmEndsCard

/-- THE TIED CARD OF 'wicketgatelaw05.VmSees'. -/
def vmSeesCard : Claim7 := { stood := { row := vmSeesRow, standIns := [], harness := (true, "3fcbd02b6f8e87b1e080fab717d05a515c573e16746f6c4b3ea5df49663f4d5d"), looks := false }, kinds := [], alts := [], laidByText := true, laidKinds := [.data], laidTests := true, laidLooks := .later }
def VmSeesCardSaid : Prop := Claim7.holds Tryd.pinned (.plain (OpenSpec.ofChange vmSeesSpec)) vmSeesCard

/-- THE SECOND FORM's CARD OF 'wicketgatelaw05.VmAlu'. -/
def vmAluUptoCard : Claim7 := { stood := { row := vmAluUptoRow, standIns := [], harness := (true, "3fcbd02b6f8e87b1e080fab717d05a515c573e16746f6c4b3ea5df49663f4d5d"), looks := false }, kinds := [], alts := [], laidByText := true, laidKinds := [.data], laidTests := true, laidLooks := .later }
def VmAluUptoCardSaid : Prop := Claim7.holds Tryd.pinned (.plain (OpenSpec.upto vmAluSpec)) vmAluUptoCard

/-- THE SECOND FORM's CARD OF 'wicketgatelaw05.VmSteps'. -/
def vmStepsUptoCard : Claim7 := { stood := { row := vmStepsUptoRow, standIns := [], harness := (true, "3fcbd02b6f8e87b1e080fab717d05a515c573e16746f6c4b3ea5df49663f4d5d"), looks := false }, kinds := [], alts := [], laidByText := true, laidKinds := [.data], laidTests := true, laidLooks := .later }
def VmStepsUptoCardSaid : Prop := Claim7.holds Tryd.pinned (.plain (OpenSpec.upto vmStepsSpec)) vmStepsUptoCard

/-- THE SECOND FORM's CARD OF 'wicketgatelaw05.VmRuns'. -/
def vmRunsUptoCard : Claim7 := { stood := { row := vmRunsUptoRow, standIns := [], harness := (true, "3fcbd02b6f8e87b1e080fab717d05a515c573e16746f6c4b3ea5df49663f4d5d"), looks := false }, kinds := [], alts := [], laidByText := true, laidKinds := [.data], laidTests := true, laidLooks := .later }
def VmRunsUptoCardSaid : Prop := Claim7.holds Tryd.pinned (.plain (OpenSpec.upto vmRunsSpec)) vmRunsUptoCard

/-- THE SECOND FORM's CARD OF 'wicketgatelaw05.VmEnds'. -/
def vmEndsUptoCard : Claim7 := { stood := { row := vmEndsUptoRow, standIns := [], harness := (true, "3fcbd02b6f8e87b1e080fab717d05a515c573e16746f6c4b3ea5df49663f4d5d"), looks := false }, kinds := [], alts := [], laidByText := true, laidKinds := [.data], laidTests := true, laidLooks := .later }
def VmEndsUptoCardSaid : Prop := Claim7.holds Tryd.pinned (.plain (OpenSpec.upto vmEndsSpec)) vmEndsUptoCard

/-- THE SECOND FORM's CARD OF 'wicketgatelaw05.VmSees'. -/
def vmSeesUptoCard : Claim7 := { stood := { row := vmSeesUptoRow, standIns := [], harness := (true, "3fcbd02b6f8e87b1e080fab717d05a515c573e16746f6c4b3ea5df49663f4d5d"), looks := false }, kinds := [], alts := [], laidByText := true, laidKinds := [.data], laidTests := true, laidLooks := .later }
def VmSeesUptoCardSaid : Prop := Claim7.holds Tryd.pinned (.plain (OpenSpec.upto vmSeesSpec)) vmSeesUptoCard
end Rows
end Go.Proofs.YtepkhkfdokinmaaDoor
