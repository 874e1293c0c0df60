/-
  DERIVED. GIVEN WITH THE SEED: THE CARDS: each row of YteogdmliimfkbaaDoorRows.lean that lists a variable, with what it lists TIED to the program's text (the seventh form; the later family's looks); each row that meets fmt, with fmt's text TOLD by the authors' own Lean function (tested against real Go, not proved from fmt's source: count such statements apart). THE CARD IS WHAT COUNTS. Prove the row's statement (the work); the ties are given (YteogdmliimfkbaaDoorTie.lean); close each card by the builder's one call (the guide's Derived/Test/ToyasCard.lean, 'card_holds'). Laid BY PROGRAM, IN A SANDBOX (cutbox-door.mjs). By AI agents, Wed Nov 11 2026. No macro, syntax, notation, axiom, sorry.
-/
import Derived.Test.YteogdmliimfkbaaDoorRows
import GoSem.ClaimSeven
namespace Go.Proofs.YteogdmliimfkbaaDoor
namespace Rows

/-- THE TIED CARD OF 'wicketgatelaw06.ActionSplits'. -/
def actionSplitsCard : Claim7 := { stood := { row := actionSplitsRow, standIns := [], harness := (true, "592e17432758c2a3214e38f5119ac731985e40e7c3666d24a1f2936611f685eb"), looks := false }, kinds := [], alts := [], laidByText := true, laidKinds := [.data, .data], laidTests := true, laidLooks := .later }
def ActionSplitsCardSaid : Prop := Claim7.holds Tryd.pinned (.plain (OpenSpec.ofChange actionSplitsSpec)) actionSplitsCard

/-- THE TIED CARD OF 'wicketgatelaw06.ActionNames'. -/
def actionNamesCard : Claim7 := { stood := { row := actionNamesRow, standIns := [], harness := (true, "592e17432758c2a3214e38f5119ac731985e40e7c3666d24a1f2936611f685eb"), looks := false }, kinds := [], alts := [], laidByText := true, laidKinds := [.data, .data], laidTests := true, laidLooks := .later }
def ActionNamesCardSaid : Prop := Claim7.holds Tryd.pinned (.plain (OpenSpec.ofChange actionNamesSpec)) actionNamesCard

/-- THE TIED CARD OF 'wicketgatelaw06.ActionCombines'. -/
def actionCombinesCard : Claim7 := { stood := { row := actionCombinesRow, standIns := [], harness := (true, "592e17432758c2a3214e38f5119ac731985e40e7c3666d24a1f2936611f685eb"), looks := false }, kinds := [], alts := [], laidByText := true, laidKinds := [.data, .data], laidTests := true, laidLooks := .later }
def ActionCombinesCardSaid : Prop := Claim7.holds Tryd.pinned (.plain (OpenSpec.ofChange actionCombinesSpec)) actionCombinesCard

/-- THE TIED CARD OF 'wicketgatelaw06.ActionBack'. -/
def actionBackCard : Claim7 := { stood := { row := actionBackRow, standIns := [], harness := (true, "592e17432758c2a3214e38f5119ac731985e40e7c3666d24a1f2936611f685eb"), looks := false }, kinds := [], alts := [], laidByText := true, laidKinds := [.data, .data], laidTests := true, laidLooks := .later }
def ActionBackCardSaid : Prop := Claim7.holds Tryd.pinned (.plain (OpenSpec.ofChange actionBackSpec)) actionBackCard

/-- THE TIED CARD OF 'wicketgatelaw06.ActionTighter'. -/
def actionTighterCard : Claim7 := { stood := { row := actionTighterRow, standIns := [], harness := (true, "592e17432758c2a3214e38f5119ac731985e40e7c3666d24a1f2936611f685eb"), looks := false }, kinds := [], alts := [], laidByText := true, laidKinds := [.data, .data], laidTests := true, laidLooks := .later }
def ActionTighterCardSaid : Prop := Claim7.holds Tryd.pinned (.plain (OpenSpec.ofChange actionTighterSpec)) actionTighterCard

/-- THE SECOND FORM's CARD OF 'wicketgatelaw06.ActionSplits'. -/
def actionSplitsUptoCard : Claim7 := { stood := { row := actionSplitsUptoRow, standIns := [], harness := (true, "592e17432758c2a3214e38f5119ac731985e40e7c3666d24a1f2936611f685eb"), looks := false }, kinds := [], alts := [], laidByText := true, laidKinds := [.data, .data], laidTests := true, laidLooks := .later }
def ActionSplitsUptoCardSaid : Prop := Claim7.holds Tryd.pinned (.plain (OpenSpec.upto actionSplitsSpec)) actionSplitsUptoCard

/-- THE SECOND FORM's CARD OF 'wicketgatelaw06.ActionNames'. -/
def actionNamesUptoCard : Claim7 := { stood := { row := actionNamesUptoRow, standIns := [], harness := (true, "592e17432758c2a3214e38f5119ac731985e40e7c3666d24a1f2936611f685eb"), looks := false }, kinds := [], alts := [], laidByText := true, laidKinds := [.data, .data], laidTests := true, laidLooks := .later }
def ActionNamesUptoCardSaid : Prop := Claim7.holds Tryd.pinned (.plain (OpenSpec.upto actionNamesSpec)) actionNamesUptoCard

/-- THE SECOND FORM's CARD OF 'wicketgatelaw06.ActionCombines'. -/
def actionCombinesUptoCard : Claim7 := { stood := { row := actionCombinesUptoRow, standIns := [], harness := (true, "592e17432758c2a3214e38f5119ac731985e40e7c3666d24a1f2936611f685eb"), looks := false }, kinds := [], alts := [], laidByText := true, laidKinds := [.data, .data], laidTests := true, laidLooks := .later }
def ActionCombinesUptoCardSaid : Prop := Claim7.holds Tryd.pinned (.plain (OpenSpec.upto actionCombinesSpec)) actionCombinesUptoCard

/-- THE SECOND FORM's CARD OF 'wicketgatelaw06.ActionBack'. -/
def actionBackUptoCard : Claim7 := { stood := { row := actionBackUptoRow, standIns := [], harness := (true, "592e17432758c2a3214e38f5119ac731985e40e7c3666d24a1f2936611f685eb"), looks := false }, kinds := [], alts := [], laidByText := true, laidKinds := [.data, .data], laidTests := true, laidLooks := .later }
def ActionBackUptoCardSaid : Prop := Claim7.holds Tryd.pinned (.plain (OpenSpec.upto actionBackSpec)) actionBackUptoCard

/-- THE SECOND FORM's CARD OF 'wicketgatelaw06.ActionTighter'. -/
def actionTighterUptoCard : Claim7 := { stood := { row := actionTighterUptoRow, standIns := [], harness := (true, "592e17432758c2a3214e38f5119ac731985e40e7c3666d24a1f2936611f685eb"), looks := false }, kinds := [], alts := [], laidByText := true, laidKinds := [.data, .data], laidTests := true, laidLooks := .later }
def ActionTighterUptoCardSaid : Prop := Claim7.holds Tryd.pinned (.plain (OpenSpec.upto actionTighterSpec)) actionTighterUptoCard
end Rows
end Go.Proofs.YteogdmliimfkbaaDoor
