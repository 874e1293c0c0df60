/-
  DERIVED. GIVEN WITH THE SEED: THE CARDS: each row of YtelfdpcenplhjaaGreatDoorRows.lean that lists a variable, with what it lists TIED to the program's text (the seventh form; the later family's looks); each row that meets fmt, with fmt's text TOLD by the authors' own Lean function (tested against real Go, not proved from fmt's source: count such statements apart). THE CARD IS WHAT COUNTS. Prove the row's statement (the work); the ties are given (YtelfdpcenplhjaaGreatDoorTie.lean); close each card by the builder's one call (the guide's Derived/Test/ToyasCard.lean, 'card_holds'). Laid BY PROGRAM, IN A SANDBOX (cutbox-door.mjs). By AI agents, Wed Nov 11 2026. No macro, syntax, notation, axiom, sorry.
-/
import Derived.Test.YtelfdpcenplhjaaGreatDoorRows
import GoSem.ClaimSeven
namespace Go.Proofs.YtelfdpcenplhjaaGreatDoor
namespace Rows

/-- THE TIED CARD OF 'wicketgatelaw09.ChainAdds'. -/
def chainAddsCard : Claim7 := { stood := { row := chainAddsRow, standIns := [], harness := (true, "3fb201f1350ad4e45551e3f95d4111f8a184bb4fad8ed3928adeb1ca6754a011"), looks := false }, kinds := [], alts := [], laidByText := true, laidKinds := [.data, .data], laidTests := true, laidLooks := .later }
def ChainAddsCardSaid : Prop := Claim7.holds Tryz.pinned (.plain (OpenSpec.ofChange chainAddsSpec)) chainAddsCard

/-- THE TIED CARD OF 'wicketgatelaw09.ChainCounts'. -/
def chainCountsCard : Claim7 := { stood := { row := chainCountsRow, standIns := [], harness := (true, "3fb201f1350ad4e45551e3f95d4111f8a184bb4fad8ed3928adeb1ca6754a011"), looks := false }, kinds := [], alts := [], laidByText := true, laidKinds := [.data, .data], laidTests := true, laidLooks := .later }
def ChainCountsCardSaid : Prop := Claim7.holds Tryz.pinned (.plain (OpenSpec.ofChange chainCountsSpec)) chainCountsCard

/-- THE TIED CARD OF 'wicketgatelaw09.ChainTells'. -/
def chainTellsCard : Claim7 := { stood := { row := chainTellsRow, standIns := [], harness := (true, "3fb201f1350ad4e45551e3f95d4111f8a184bb4fad8ed3928adeb1ca6754a011"), looks := false }, kinds := [], alts := [], laidByText := true, laidKinds := [.data, .data], laidTests := true, laidLooks := .later }
def ChainTellsCardSaid : Prop := Claim7.holds Tryz.pinned (.plain (OpenSpec.ofChange chainTellsSpec)) chainTellsCard

/-- THE TIED CARD OF 'wicketgatelaw09.ChainBack'. -/
def chainBackCard : Claim7 := { stood := { row := chainBackRow, standIns := [], harness := (true, "3fb201f1350ad4e45551e3f95d4111f8a184bb4fad8ed3928adeb1ca6754a011"), looks := false }, kinds := [], alts := [], laidByText := true, laidKinds := [.data, .data], laidTests := true, laidLooks := .later }
def ChainBackCardSaid : Prop := Claim7.holds Tryz.pinned (.plain (OpenSpec.ofChange chainBackSpec)) chainBackCard

/-- THE TIED CARD OF 'wicketgatelaw09.ChainOwned'. -/
def chainOwnedCard : Claim7 := { stood := { row := chainOwnedRow, standIns := [], harness := (true, "3fb201f1350ad4e45551e3f95d4111f8a184bb4fad8ed3928adeb1ca6754a011"), looks := false }, kinds := [], alts := [], laidByText := true, laidKinds := [.data, .data], laidTests := true, laidLooks := .later }
def ChainOwnedCardSaid : Prop := Claim7.holds Tryz.pinned (.plain (OpenSpec.ofChange chainOwnedSpec)) chainOwnedCard

/-- THE TIED CARD OF 'wicketgatelaw09.ChainTighter'. -/
def chainTighterCard : Claim7 := { stood := { row := chainTighterRow, standIns := [], harness := (true, "3fb201f1350ad4e45551e3f95d4111f8a184bb4fad8ed3928adeb1ca6754a011"), looks := false }, kinds := [], alts := [], laidByText := true, laidKinds := [.data, .data], laidTests := true, laidLooks := .later }
def ChainTighterCardSaid : Prop := Claim7.holds Tryz.pinned (.plain (OpenSpec.ofChange chainTighterSpec)) chainTighterCard

/-- THE SECOND FORM's CARD OF 'wicketgatelaw09.ChainAdds'. -/
def chainAddsUptoCard : Claim7 := { stood := { row := chainAddsUptoRow, standIns := [], harness := (true, "3fb201f1350ad4e45551e3f95d4111f8a184bb4fad8ed3928adeb1ca6754a011"), looks := false }, kinds := [], alts := [], laidByText := true, laidKinds := [.data, .data], laidTests := true, laidLooks := .later }
def ChainAddsUptoCardSaid : Prop := Claim7.holds Tryz.pinned (.plain (OpenSpec.upto chainAddsSpec)) chainAddsUptoCard

/-- THE SECOND FORM's CARD OF 'wicketgatelaw09.ChainCounts'. -/
def chainCountsUptoCard : Claim7 := { stood := { row := chainCountsUptoRow, standIns := [], harness := (true, "3fb201f1350ad4e45551e3f95d4111f8a184bb4fad8ed3928adeb1ca6754a011"), looks := false }, kinds := [], alts := [], laidByText := true, laidKinds := [.data, .data], laidTests := true, laidLooks := .later }
def ChainCountsUptoCardSaid : Prop := Claim7.holds Tryz.pinned (.plain (OpenSpec.upto chainCountsSpec)) chainCountsUptoCard

/-- THE SECOND FORM's CARD OF 'wicketgatelaw09.ChainTells'. -/
def chainTellsUptoCard : Claim7 := { stood := { row := chainTellsUptoRow, standIns := [], harness := (true, "3fb201f1350ad4e45551e3f95d4111f8a184bb4fad8ed3928adeb1ca6754a011"), looks := false }, kinds := [], alts := [], laidByText := true, laidKinds := [.data, .data], laidTests := true, laidLooks := .later }
def ChainTellsUptoCardSaid : Prop := Claim7.holds Tryz.pinned (.plain (OpenSpec.upto chainTellsSpec)) chainTellsUptoCard

/-- THE SECOND FORM's CARD OF 'wicketgatelaw09.ChainBack'. -/
def chainBackUptoCard : Claim7 := { stood := { row := chainBackUptoRow, standIns := [], harness := (true, "3fb201f1350ad4e45551e3f95d4111f8a184bb4fad8ed3928adeb1ca6754a011"), looks := false }, kinds := [], alts := [], laidByText := true, laidKinds := [.data, .data], laidTests := true, laidLooks := .later }
def ChainBackUptoCardSaid : Prop := Claim7.holds Tryz.pinned (.plain (OpenSpec.upto chainBackSpec)) chainBackUptoCard

/-- THE SECOND FORM's CARD OF 'wicketgatelaw09.ChainOwned'. -/
def chainOwnedUptoCard : Claim7 := { stood := { row := chainOwnedUptoRow, standIns := [], harness := (true, "3fb201f1350ad4e45551e3f95d4111f8a184bb4fad8ed3928adeb1ca6754a011"), looks := false }, kinds := [], alts := [], laidByText := true, laidKinds := [.data, .data], laidTests := true, laidLooks := .later }
def ChainOwnedUptoCardSaid : Prop := Claim7.holds Tryz.pinned (.plain (OpenSpec.upto chainOwnedSpec)) chainOwnedUptoCard

/-- THE SECOND FORM's CARD OF 'wicketgatelaw09.ChainTighter'. -/
def chainTighterUptoCard : Claim7 := { stood := { row := chainTighterUptoRow, standIns := [], harness := (true, "3fb201f1350ad4e45551e3f95d4111f8a184bb4fad8ed3928adeb1ca6754a011"), looks := false }, kinds := [], alts := [], laidByText := true, laidKinds := [.data, .data], laidTests := true, laidLooks := .later }
def ChainTighterUptoCardSaid : Prop := Claim7.holds Tryz.pinned (.plain (OpenSpec.upto chainTighterSpec)) chainTighterUptoCard
end Rows
end Go.Proofs.YtelfdpcenplhjaaGreatDoor
