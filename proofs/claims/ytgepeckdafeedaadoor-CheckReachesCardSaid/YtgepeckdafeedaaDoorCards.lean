/-
  DERIVED. GIVEN WITH THE SEED: THE CARDS: each row of YtgepeckdafeedaaDoorRows.lean that lists a variable, with what it lists TIED to the program's text (the seventh form; the later family's looks); each row that meets fmt, with fmt's text TOLD by the authors' own Lean function (tested against real Go, not proved from fmt's source: count such statements apart). THE CARD IS WHAT COUNTS. Prove the row's statement (the work); the ties are given (YtgepeckdafeedaaDoorTie.lean); close each card by the builder's one call (the guide's Derived/Test/ToyasCard.lean, 'card_holds'). Laid BY PROGRAM, IN A SANDBOX (cutbox-door.mjs). By AI agents, Wed Nov 11 2026. No macro, syntax, notation, axiom, sorry.
-/
import Derived.Test.YtgepeckdafeedaaDoorRows
import GoSem.ClaimSeven
namespace Go.Proofs.YtgepeckdafeedaaDoor
namespace Rows

/-- THE TIED CARD OF 'wicketgatelaw04.CheckChecks'. -/
def checkChecksCard : Claim7 := { stood := { row := checkChecksRow, standIns := [], harness := (true, "3dd635e93e39695df23fcc9caf5a7be7cc50d4810c36fddc22478aa995bd5d3f"), looks := false }, kinds := [], alts := [], laidByText := true, laidKinds := [.data], laidTests := true, laidLooks := .later }
def CheckChecksCardSaid : Prop := Claim7.holds Tryd.pinned (.plain (OpenSpec.ofChange checkChecksSpec)) checkChecksCard

/-- THE TIED CARD OF 'wicketgatelaw04.CheckReaches'. -/
def checkReachesCard : Claim7 := { stood := { row := checkReachesRow, standIns := [], harness := (true, "3dd635e93e39695df23fcc9caf5a7be7cc50d4810c36fddc22478aa995bd5d3f"), looks := false }, kinds := [], alts := [], laidByText := true, laidKinds := [.data], laidTests := true, laidLooks := .later }
def CheckReachesCardSaid : Prop := Claim7.holds Tryd.pinned (.plain (OpenSpec.ofChange checkReachesSpec)) checkReachesCard

/-- THE TIED CARD OF 'wicketgatelaw04.CheckEnds'. -/
def checkEndsCard : Claim7 := { stood := { row := checkEndsRow, standIns := [], harness := (true, "3dd635e93e39695df23fcc9caf5a7be7cc50d4810c36fddc22478aa995bd5d3f"), looks := false }, kinds := [], alts := [], laidByText := true, laidKinds := [.data], laidTests := true, laidLooks := .later }
def CheckEndsCardSaid : Prop := Claim7.holds Tryd.pinned (.plain (OpenSpec.ofChange checkEndsSpec)) checkEndsCard

/-- THE TIED CARD OF 'wicketgatelaw04.CheckLonger'. -/
def checkLongerCard : Claim7 := { stood := { row := checkLongerRow, standIns := [], harness := (true, "3dd635e93e39695df23fcc9caf5a7be7cc50d4810c36fddc22478aa995bd5d3f"), looks := false }, kinds := [], alts := [], laidByText := true, laidKinds := [.data], laidTests := true, laidLooks := .later }
def CheckLongerCardSaid : Prop := Claim7.holds Tryd.pinned (.plain (OpenSpec.ofChange checkLongerSpec)) checkLongerCard

/-- THE TIED CARD OF 'wicketgatelaw04.CheckFirst'. -/
def checkFirstCard : Claim7 := { stood := { row := checkFirstRow, standIns := [], harness := (true, "3dd635e93e39695df23fcc9caf5a7be7cc50d4810c36fddc22478aa995bd5d3f"), looks := false }, kinds := [], alts := [], laidByText := true, laidKinds := [.data], laidTests := true, laidLooks := .later }
def CheckFirstCardSaid : Prop := Claim7.holds Tryd.pinned (.plain (OpenSpec.ofChange checkFirstSpec)) checkFirstCard

/-- THE SECOND FORM's CARD OF 'wicketgatelaw04.CheckChecks'. -/
def checkChecksUptoCard : Claim7 := { stood := { row := checkChecksUptoRow, standIns := [], harness := (true, "3dd635e93e39695df23fcc9caf5a7be7cc50d4810c36fddc22478aa995bd5d3f"), looks := false }, kinds := [], alts := [], laidByText := true, laidKinds := [.data], laidTests := true, laidLooks := .later }
def CheckChecksUptoCardSaid : Prop := Claim7.holds Tryd.pinned (.plain (OpenSpec.upto checkChecksSpec)) checkChecksUptoCard

/-- THE SECOND FORM's CARD OF 'wicketgatelaw04.CheckReaches'. -/
def checkReachesUptoCard : Claim7 := { stood := { row := checkReachesUptoRow, standIns := [], harness := (true, "3dd635e93e39695df23fcc9caf5a7be7cc50d4810c36fddc22478aa995bd5d3f"), looks := false }, kinds := [], alts := [], laidByText := true, laidKinds := [.data], laidTests := true, laidLooks := .later }
def CheckReachesUptoCardSaid : Prop := Claim7.holds Tryd.pinned (.plain (OpenSpec.upto checkReachesSpec)) checkReachesUptoCard

/-- THE SECOND FORM's CARD OF 'wicketgatelaw04.CheckEnds'. -/
def checkEndsUptoCard : Claim7 := { stood := { row := checkEndsUptoRow, standIns := [], harness := (true, "3dd635e93e39695df23fcc9caf5a7be7cc50d4810c36fddc22478aa995bd5d3f"), looks := false }, kinds := [], alts := [], laidByText := true, laidKinds := [.data], laidTests := true, laidLooks := .later }
def CheckEndsUptoCardSaid : Prop := Claim7.holds Tryd.pinned (.plain (OpenSpec.upto checkEndsSpec)) checkEndsUptoCard

/-- THE SECOND FORM's CARD OF 'wicketgatelaw04.CheckLonger'. -/
def checkLongerUptoCard : Claim7 := { stood := { row := checkLongerUptoRow, standIns := [], harness := (true, "3dd635e93e39695df23fcc9caf5a7be7cc50d4810c36fddc22478aa995bd5d3f"), looks := false }, kinds := [], alts := [], laidByText := true, laidKinds := [.data], laidTests := true, laidLooks := .later }
def CheckLongerUptoCardSaid : Prop := Claim7.holds Tryd.pinned (.plain (OpenSpec.upto checkLongerSpec)) checkLongerUptoCard

/-- THE SECOND FORM's CARD OF 'wicketgatelaw04.CheckFirst'. -/
def checkFirstUptoCard : Claim7 := { stood := { row := checkFirstUptoRow, standIns := [], harness := (true, "3dd635e93e39695df23fcc9caf5a7be7cc50d4810c36fddc22478aa995bd5d3f"), looks := false }, kinds := [], alts := [], laidByText := true, laidKinds := [.data], laidTests := true, laidLooks := .later }
def CheckFirstUptoCardSaid : Prop := Claim7.holds Tryd.pinned (.plain (OpenSpec.upto checkFirstSpec)) checkFirstUptoCard
end Rows
end Go.Proofs.YtgepeckdafeedaaDoor
