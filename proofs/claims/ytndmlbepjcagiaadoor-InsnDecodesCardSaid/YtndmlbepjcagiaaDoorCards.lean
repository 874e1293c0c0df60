/-
  DERIVED. GIVEN WITH THE SEED: THE CARDS: each row of YtndmlbepjcagiaaDoorRows.lean that lists a variable, with what it lists TIED to the program's text (the seventh form; the later family's looks); each row that meets fmt, with fmt's text TOLD by the authors' own Lean function (tested against real Go, not proved from fmt's source: count such statements apart). THE CARD IS WHAT COUNTS. Prove the row's statement (the work); the ties are given (YtndmlbepjcagiaaDoorTie.lean); close each card by the builder's one call (the guide's Derived/Test/ToyasCard.lean, 'card_holds'). Laid BY PROGRAM, IN A SANDBOX (cutbox-door.mjs). By AI agents, Wed Nov 11 2026. No macro, syntax, notation, axiom, sorry.
-/
import Derived.Test.YtndmlbepjcagiaaDoorRows
import GoSem.ClaimSeven
namespace Go.Proofs.YtndmlbepjcagiaaDoor
namespace Rows

/-- THE TIED CARD OF 'wicketgatelaw02.InsnCodes'. -/
def insnCodesCard : Claim7 := { stood := { row := insnCodesRow, standIns := [], harness := (true, "dd5ee972994da6e92627ec7b721a56e18b1f3ad04d77b05c6c4e912ec4aecbaa"), looks := false }, kinds := [], alts := [], laidByText := true, laidKinds := [.data], laidTests := true, laidLooks := .later }
def InsnCodesCardSaid : Prop := Claim7.holds Tryd.pinned (.plain (OpenSpec.ofChange insnCodesSpec)) insnCodesCard

/-- THE TIED CARD OF 'wicketgatelaw02.InsnEncodes'. -/
def insnEncodesCard : Claim7 := { stood := { row := insnEncodesRow, standIns := [], harness := (true, "dd5ee972994da6e92627ec7b721a56e18b1f3ad04d77b05c6c4e912ec4aecbaa"), looks := false }, kinds := [], alts := [], laidByText := true, laidKinds := [.data], laidTests := true, laidLooks := .later }
def InsnEncodesCardSaid : Prop := Claim7.holds Tryd.pinned (.plain (OpenSpec.ofChange insnEncodesSpec)) insnEncodesCard

/-- THE TIED CARD OF 'wicketgatelaw02.InsnDecodes'. -/
def insnDecodesCard : Claim7 := { stood := { row := insnDecodesRow, standIns := [], harness := (true, "dd5ee972994da6e92627ec7b721a56e18b1f3ad04d77b05c6c4e912ec4aecbaa"), looks := false }, kinds := [], alts := [], laidByText := true, laidKinds := [.data], laidTests := true, laidLooks := .later }
def InsnDecodesCardSaid : Prop := Claim7.holds Tryd.pinned (.plain (OpenSpec.ofChange insnDecodesSpec)) insnDecodesCard

/-- THE TIED CARD OF 'wicketgatelaw02.InsnBack'. -/
def insnBackCard : Claim7 := { stood := { row := insnBackRow, standIns := [], harness := (true, "dd5ee972994da6e92627ec7b721a56e18b1f3ad04d77b05c6c4e912ec4aecbaa"), looks := false }, kinds := [], alts := [], laidByText := true, laidKinds := [.data], laidTests := true, laidLooks := .later }
def InsnBackCardSaid : Prop := Claim7.holds Tryd.pinned (.plain (OpenSpec.ofChange insnBackSpec)) insnBackCard

/-- THE TIED CARD OF 'wicketgatelaw02.InsnNames'. -/
def insnNamesCard : Claim7 := { stood := { row := insnNamesRow, standIns := [], harness := (true, "dd5ee972994da6e92627ec7b721a56e18b1f3ad04d77b05c6c4e912ec4aecbaa"), looks := false }, kinds := [], alts := [], laidByText := true, laidKinds := [.data], laidTests := true, laidLooks := .later }
def InsnNamesCardSaid : Prop := Claim7.holds Tryd.pinned (.plain (OpenSpec.ofChange insnNamesSpec)) insnNamesCard

/-- THE SECOND FORM's CARD OF 'wicketgatelaw02.InsnCodes'. -/
def insnCodesUptoCard : Claim7 := { stood := { row := insnCodesUptoRow, standIns := [], harness := (true, "dd5ee972994da6e92627ec7b721a56e18b1f3ad04d77b05c6c4e912ec4aecbaa"), looks := false }, kinds := [], alts := [], laidByText := true, laidKinds := [.data], laidTests := true, laidLooks := .later }
def InsnCodesUptoCardSaid : Prop := Claim7.holds Tryd.pinned (.plain (OpenSpec.upto insnCodesSpec)) insnCodesUptoCard

/-- THE SECOND FORM's CARD OF 'wicketgatelaw02.InsnEncodes'. -/
def insnEncodesUptoCard : Claim7 := { stood := { row := insnEncodesUptoRow, standIns := [], harness := (true, "dd5ee972994da6e92627ec7b721a56e18b1f3ad04d77b05c6c4e912ec4aecbaa"), looks := false }, kinds := [], alts := [], laidByText := true, laidKinds := [.data], laidTests := true, laidLooks := .later }
def InsnEncodesUptoCardSaid : Prop := Claim7.holds Tryd.pinned (.plain (OpenSpec.upto insnEncodesSpec)) insnEncodesUptoCard

/-- THE SECOND FORM's CARD OF 'wicketgatelaw02.InsnDecodes'. -/
def insnDecodesUptoCard : Claim7 := { stood := { row := insnDecodesUptoRow, standIns := [], harness := (true, "dd5ee972994da6e92627ec7b721a56e18b1f3ad04d77b05c6c4e912ec4aecbaa"), looks := false }, kinds := [], alts := [], laidByText := true, laidKinds := [.data], laidTests := true, laidLooks := .later }
def InsnDecodesUptoCardSaid : Prop := Claim7.holds Tryd.pinned (.plain (OpenSpec.upto insnDecodesSpec)) insnDecodesUptoCard

/-- THE SECOND FORM's CARD OF 'wicketgatelaw02.InsnBack'. -/
def insnBackUptoCard : Claim7 := { stood := { row := insnBackUptoRow, standIns := [], harness := (true, "dd5ee972994da6e92627ec7b721a56e18b1f3ad04d77b05c6c4e912ec4aecbaa"), looks := false }, kinds := [], alts := [], laidByText := true, laidKinds := [.data], laidTests := true, laidLooks := .later }
def InsnBackUptoCardSaid : Prop := Claim7.holds Tryd.pinned (.plain (OpenSpec.upto insnBackSpec)) insnBackUptoCard

/-- THE SECOND FORM's CARD OF 'wicketgatelaw02.InsnNames'. -/
def insnNamesUptoCard : Claim7 := { stood := { row := insnNamesUptoRow, standIns := [], harness := (true, "dd5ee972994da6e92627ec7b721a56e18b1f3ad04d77b05c6c4e912ec4aecbaa"), looks := false }, kinds := [], alts := [], laidByText := true, laidKinds := [.data], laidTests := true, laidLooks := .later }
def InsnNamesUptoCardSaid : Prop := Claim7.holds Tryd.pinned (.plain (OpenSpec.upto insnNamesSpec)) insnNamesUptoCard
end Rows
end Go.Proofs.YtndmlbepjcagiaaDoor
