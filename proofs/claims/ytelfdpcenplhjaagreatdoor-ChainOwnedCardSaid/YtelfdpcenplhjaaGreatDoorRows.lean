/-
  NARROWER THAN 'FOR EVERY INPUT', by the rows' own cells (each row's printed sentence says how): ChainAdds: laid · ChainCounts: laid · ChainTells: laid · ChainBack: laid · ChainOwned: laid · ChainTighter: laid.
  DERIVED. THE GIVEN ROWS OF THIS SEAT. 6 by the template 'for every input the law returns true; each argument reads behind the call as it read before'; 0 by the template 'total and deterministic' (their statements: YtelfdpcenplhjaaGreatDoorTotals.lean).
  GIVEN WITH THE SEED: the statements are not yours to turn. If you find one false, say at which input.
  Laid BY PROGRAM, IN A SANDBOX (cutbox-rows.mjs): the forced cells as the released guide's own fill.sh prints them over the translation 8161f68301a09830… (all of the seat's roots in one cut). By AI agents, Wed Nov 11 2026. No macro, syntax, notation, axiom, sorry.
-/
import Derived.Test.YtelfdpcenplhjaaGreatDoorChecked
import GoSem.Claim
import GoSem.ClaimJoined
import GoSem.ClaimMapViews
import Derived.JoinedTies
import Derived.KernelRfl
namespace Go.Proofs.YtelfdpcenplhjaaGreatDoor
/- THE CELL 'sum', in the pinned program and in every row, IS THE sha256 OF THE DUMP (.gsa) THAT YtelfdpcenplhjaaGreatDoorProg.lean LOADS. Nothing in Lean hashes anything: it is a label: what it is worth is what the hold of that sum in a sandbox is worth. -/
noncomputable def Tryz.pinned : Pinned := { name := "ytelfdpcenplhjaagreatdoor", sum := "8161f68301a09830b5db4cb1c00f5cf030b7dd41875cc208d1b4b50592c7c1cb", checked := Tryz.checked }
namespace Rows
def none {H : Type} : Left H := { results := [], args := [] }

/- WHAT THE LISTED PACKAGE-LEVEL VARIABLES READ AS WHEN THE CALL BEGINS. Each datum BY PROGRAM (the guide's laid-datum.mjs) off the statement by which the dump's own 'gosem.cut.vars' lays the variable. In a bare row this is a premise. The card (YtelfdpcenplhjaaGreatDoorCards.lean) ties it to the program's text. -/
def laid_wicketgate_action_halves {H : Type} : DataW H := .agg [.lit (.int .u16 32768), .lit (.int .u16 0), .lit (.int .u16 3), .lit (.int .u16 5), .lit (.int .u16 32704), .lit (.int .u16 32752), .lit (.int .u16 32764), .lit (.int .u16 32767)]
def laid_wicketgate_insn_kinds {H : Type} : DataW H := .agg [.agg [.lit (.int .u16 0), .lit (.string [108, 100, 46, 105, 109, 109]), .lit (.int .i64 1)], .agg [.lit (.int .u16 1), .lit (.string [108, 100, 120, 46, 105, 109, 109]), .lit (.int .i64 1)], .agg [.lit (.int .u16 2), .lit (.string [115, 116]), .lit (.int .i64 3)], .agg [.lit (.int .u16 3), .lit (.string [115, 116, 120]), .lit (.int .i64 3)], .agg [.lit (.int .u16 4), .lit (.string [97, 100, 100, 46, 107]), .lit (.int .i64 1)], .agg [.lit (.int .u16 5), .lit (.string [106, 97]), .lit (.int .i64 4)], .agg [.lit (.int .u16 6), .lit (.string [114, 101, 116, 46, 107]), .lit (.int .i64 1)], .agg [.lit (.int .u16 7), .lit (.string [116, 97, 120]), .lit (.int .i64 0)], .agg [.lit (.int .u16 12), .lit (.string [97, 100, 100, 46, 120]), .lit (.int .i64 0)], .agg [.lit (.int .u16 20), .lit (.string [115, 117, 98, 46, 107]), .lit (.int .i64 1)], .agg [.lit (.int .u16 21), .lit (.string [106, 101, 113, 46, 107]), .lit (.int .i64 5)], .agg [.lit (.int .u16 22), .lit (.string [114, 101, 116, 46, 97]), .lit (.int .i64 0)], .agg [.lit (.int .u16 28), .lit (.string [115, 117, 98, 46, 120]), .lit (.int .i64 0)], .agg [.lit (.int .u16 29), .lit (.string [106, 101, 113, 46, 120]), .lit (.int .i64 6)], .agg [.lit (.int .u16 32), .lit (.string [108, 100, 46, 97, 98, 115]), .lit (.int .i64 2)], .agg [.lit (.int .u16 36), .lit (.string [109, 117, 108, 46, 107]), .lit (.int .i64 1)], .agg [.lit (.int .u16 37), .lit (.string [106, 103, 116, 46, 107]), .lit (.int .i64 5)], .agg [.lit (.int .u16 44), .lit (.string [109, 117, 108, 46, 120]), .lit (.int .i64 0)], .agg [.lit (.int .u16 45), .lit (.string [106, 103, 116, 46, 120]), .lit (.int .i64 6)], .agg [.lit (.int .u16 52), .lit (.string [100, 105, 118, 46, 107]), .lit (.int .i64 1)], .agg [.lit (.int .u16 53), .lit (.string [106, 103, 101, 46, 107]), .lit (.int .i64 5)], .agg [.lit (.int .u16 60), .lit (.string [100, 105, 118, 46, 120]), .lit (.int .i64 0)], .agg [.lit (.int .u16 61), .lit (.string [106, 103, 101, 46, 120]), .lit (.int .i64 6)], .agg [.lit (.int .u16 68), .lit (.string [111, 114, 46, 107]), .lit (.int .i64 1)], .agg [.lit (.int .u16 69), .lit (.string [106, 115, 101, 116, 46, 107]), .lit (.int .i64 5)], .agg [.lit (.int .u16 76), .lit (.string [111, 114, 46, 120]), .lit (.int .i64 0)], .agg [.lit (.int .u16 77), .lit (.string [106, 115, 101, 116, 46, 120]), .lit (.int .i64 6)], .agg [.lit (.int .u16 84), .lit (.string [97, 110, 100, 46, 107]), .lit (.int .i64 1)], .agg [.lit (.int .u16 92), .lit (.string [97, 110, 100, 46, 120]), .lit (.int .i64 0)], .agg [.lit (.int .u16 96), .lit (.string [108, 100, 46, 109, 101, 109]), .lit (.int .i64 3)], .agg [.lit (.int .u16 97), .lit (.string [108, 100, 120, 46, 109, 101, 109]), .lit (.int .i64 3)], .agg [.lit (.int .u16 100), .lit (.string [108, 115, 104, 46, 107]), .lit (.int .i64 1)], .agg [.lit (.int .u16 108), .lit (.string [108, 115, 104, 46, 120]), .lit (.int .i64 0)], .agg [.lit (.int .u16 116), .lit (.string [114, 115, 104, 46, 107]), .lit (.int .i64 1)], .agg [.lit (.int .u16 124), .lit (.string [114, 115, 104, 46, 120]), .lit (.int .i64 0)], .agg [.lit (.int .u16 128), .lit (.string [108, 100, 46, 108, 101, 110]), .lit (.int .i64 0)], .agg [.lit (.int .u16 129), .lit (.string [108, 100, 120, 46, 108, 101, 110]), .lit (.int .i64 0)], .agg [.lit (.int .u16 132), .lit (.string [110, 101, 103]), .lit (.int .i64 0)], .agg [.lit (.int .u16 135), .lit (.string [116, 120, 97]), .lit (.int .i64 0)], .agg [.lit (.int .u16 164), .lit (.string [120, 111, 114, 46, 107]), .lit (.int .i64 1)], .agg [.lit (.int .u16 172), .lit (.string [120, 111, 114, 46, 120]), .lit (.int .i64 0)]]

/-- 'wicketgatelaw09.ChainAdds': WHATEVER THE INPUT: true; the input reads as it did. -/
def chainAddsSpec : ChangeSpec := { name := "chainAdds", fn := fun _ => fun
  | [d1, d2, d3] => { results := [.lit (.bool true)], args := [d1, d2, d3] }
  | _ => none }
def chainAddsRow : OpenClaim := { program := "ytelfdpcenplhjaagreatdoor", sum := "8161f68301a09830b5db4cb1c00f5cf030b7dd41875cc208d1b4b50592c7c1cb", func := "wicketgate/wicketgatelaw09.ChainAdds", spec := "chainAdds", inPlace := ["slices.overlaps[wicketgate/api.Node]"], unfollowed := true, recurses := true, named := ["wicketgate/insn.kinds", "wicketgate/action.halves"], apart := false, laid := [("wicketgate/action.halves", laid_wicketgate_action_halves), ("wicketgate/insn.kinds", laid_wicketgate_insn_kinds)] }
def ChainAddsSaid : Prop := chainAddsRow.holds Tryz.pinned (OpenSpec.ofChange chainAddsSpec)

/-- ITS FALSE NEIGHBOUR: 'it returns false'. Refute it at one input. -/
def chainAddsWrong : ChangeSpec := { name := "chainAdds", fn := fun _ => fun
  | [d1, d2, d3] => { results := [.lit (.bool false)], args := [d1, d2, d3] }
  | _ => none }
def ChainAddsWrongFalsely : Prop := chainAddsRow.holds Tryz.pinned (OpenSpec.ofChange chainAddsWrong)

/-- 'wicketgatelaw09.ChainCounts': WHATEVER THE INPUT: true; the input reads as it did. -/
def chainCountsSpec : ChangeSpec := { name := "chainCounts", fn := fun _ => fun
  | [d1, d2] => { results := [.lit (.bool true)], args := [d1, d2] }
  | _ => none }
def chainCountsRow : OpenClaim := { program := "ytelfdpcenplhjaagreatdoor", sum := "8161f68301a09830b5db4cb1c00f5cf030b7dd41875cc208d1b4b50592c7c1cb", func := "wicketgate/wicketgatelaw09.ChainCounts", spec := "chainCounts", inPlace := ["slices.overlaps[wicketgate/api.Node]"], unfollowed := true, recurses := true, named := ["wicketgate/insn.kinds", "wicketgate/action.halves"], apart := false, laid := [("wicketgate/action.halves", laid_wicketgate_action_halves), ("wicketgate/insn.kinds", laid_wicketgate_insn_kinds)] }
def ChainCountsSaid : Prop := chainCountsRow.holds Tryz.pinned (OpenSpec.ofChange chainCountsSpec)

/-- ITS FALSE NEIGHBOUR: 'it returns false'. Refute it at one input. -/
def chainCountsWrong : ChangeSpec := { name := "chainCounts", fn := fun _ => fun
  | [d1, d2] => { results := [.lit (.bool false)], args := [d1, d2] }
  | _ => none }
def ChainCountsWrongFalsely : Prop := chainCountsRow.holds Tryz.pinned (OpenSpec.ofChange chainCountsWrong)

/-- 'wicketgatelaw09.ChainTells': WHATEVER THE INPUT: true; the input reads as it did. -/
def chainTellsSpec : ChangeSpec := { name := "chainTells", fn := fun _ => fun
  | [d1, d2, d3] => { results := [.lit (.bool true)], args := [d1, d2, d3] }
  | _ => none }
def chainTellsRow : OpenClaim := { program := "ytelfdpcenplhjaagreatdoor", sum := "8161f68301a09830b5db4cb1c00f5cf030b7dd41875cc208d1b4b50592c7c1cb", func := "wicketgate/wicketgatelaw09.ChainTells", spec := "chainTells", inPlace := ["slices.overlaps[wicketgate/api.Node]"], unfollowed := true, recurses := true, named := ["wicketgate/insn.kinds", "wicketgate/action.halves"], apart := false, laid := [("wicketgate/action.halves", laid_wicketgate_action_halves), ("wicketgate/insn.kinds", laid_wicketgate_insn_kinds)] }
def ChainTellsSaid : Prop := chainTellsRow.holds Tryz.pinned (OpenSpec.ofChange chainTellsSpec)

/-- ITS FALSE NEIGHBOUR: 'it returns false'. Refute it at one input. -/
def chainTellsWrong : ChangeSpec := { name := "chainTells", fn := fun _ => fun
  | [d1, d2, d3] => { results := [.lit (.bool false)], args := [d1, d2, d3] }
  | _ => none }
def ChainTellsWrongFalsely : Prop := chainTellsRow.holds Tryz.pinned (OpenSpec.ofChange chainTellsWrong)

/-- 'wicketgatelaw09.ChainBack': WHATEVER THE INPUT: true; the input reads as it did. -/
def chainBackSpec : ChangeSpec := { name := "chainBack", fn := fun _ => fun
  | [d1, d2, d3] => { results := [.lit (.bool true)], args := [d1, d2, d3] }
  | _ => none }
def chainBackRow : OpenClaim := { program := "ytelfdpcenplhjaagreatdoor", sum := "8161f68301a09830b5db4cb1c00f5cf030b7dd41875cc208d1b4b50592c7c1cb", func := "wicketgate/wicketgatelaw09.ChainBack", spec := "chainBack", inPlace := ["slices.overlaps[wicketgate/api.Node]"], unfollowed := true, recurses := true, named := ["wicketgate/insn.kinds", "wicketgate/action.halves"], apart := false, laid := [("wicketgate/action.halves", laid_wicketgate_action_halves), ("wicketgate/insn.kinds", laid_wicketgate_insn_kinds)] }
def ChainBackSaid : Prop := chainBackRow.holds Tryz.pinned (OpenSpec.ofChange chainBackSpec)

/-- ITS FALSE NEIGHBOUR: 'it returns false'. Refute it at one input. -/
def chainBackWrong : ChangeSpec := { name := "chainBack", fn := fun _ => fun
  | [d1, d2, d3] => { results := [.lit (.bool false)], args := [d1, d2, d3] }
  | _ => none }
def ChainBackWrongFalsely : Prop := chainBackRow.holds Tryz.pinned (OpenSpec.ofChange chainBackWrong)

/-- 'wicketgatelaw09.ChainOwned': WHATEVER THE INPUT: true; the input reads as it did. -/
def chainOwnedSpec : ChangeSpec := { name := "chainOwned", fn := fun _ => fun
  | [d] => { results := [.lit (.bool true)], args := [d] }
  | _ => none }
def chainOwnedRow : OpenClaim := { program := "ytelfdpcenplhjaagreatdoor", sum := "8161f68301a09830b5db4cb1c00f5cf030b7dd41875cc208d1b4b50592c7c1cb", func := "wicketgate/wicketgatelaw09.ChainOwned", spec := "chainOwned", inPlace := ["slices.overlaps[wicketgate/api.Node]"], unfollowed := true, recurses := true, named := ["wicketgate/insn.kinds", "wicketgate/action.halves"], apart := false, laid := [("wicketgate/action.halves", laid_wicketgate_action_halves), ("wicketgate/insn.kinds", laid_wicketgate_insn_kinds)] }
def ChainOwnedSaid : Prop := chainOwnedRow.holds Tryz.pinned (OpenSpec.ofChange chainOwnedSpec)

/-- ITS FALSE NEIGHBOUR: 'it returns false'. Refute it at one input. -/
def chainOwnedWrong : ChangeSpec := { name := "chainOwned", fn := fun _ => fun
  | [d] => { results := [.lit (.bool false)], args := [d] }
  | _ => none }
def ChainOwnedWrongFalsely : Prop := chainOwnedRow.holds Tryz.pinned (OpenSpec.ofChange chainOwnedWrong)

/-- 'wicketgatelaw09.ChainTighter': WHATEVER THE INPUT: true; the input reads as it did. -/
def chainTighterSpec : ChangeSpec := { name := "chainTighter", fn := fun _ => fun
  | [d1, d2, d3] => { results := [.lit (.bool true)], args := [d1, d2, d3] }
  | _ => none }
def chainTighterRow : OpenClaim := { program := "ytelfdpcenplhjaagreatdoor", sum := "8161f68301a09830b5db4cb1c00f5cf030b7dd41875cc208d1b4b50592c7c1cb", func := "wicketgate/wicketgatelaw09.ChainTighter", spec := "chainTighter", inPlace := ["slices.overlaps[wicketgate/api.Node]"], unfollowed := true, recurses := true, named := ["wicketgate/insn.kinds", "wicketgate/action.halves"], apart := false, laid := [("wicketgate/action.halves", laid_wicketgate_action_halves), ("wicketgate/insn.kinds", laid_wicketgate_insn_kinds)] }
def ChainTighterSaid : Prop := chainTighterRow.holds Tryz.pinned (OpenSpec.ofChange chainTighterSpec)

/-- ITS FALSE NEIGHBOUR: 'it returns false'. Refute it at one input. -/
def chainTighterWrong : ChangeSpec := { name := "chainTighter", fn := fun _ => fun
  | [d1, d2, d3] => { results := [.lit (.bool false)], args := [d1, d2, d3] }
  | _ => none }
def ChainTighterWrongFalsely : Prop := chainTighterRow.holds Tryz.pinned (OpenSpec.ofChange chainTighterWrong)

/- THE SECOND FORM. 'bulk': how many values and letters a reading holds, each counted each time it is reached (what is shared counts as often as it is met; a slice's spare places count too). A statement '..UptoSaid' is the law's where the arguments, and the package variables that the reading takes, are together of bulk at most 1048576: NARROWER than '..Said'. Prove '..Said' where nothing that the law and all that it calls make is longer than what came in: it says more and counts as full. Else prove '..UptoSaid'. A law counts once. -/
mutual
def uptoBulk {H : Type} : DataW H → Nat
  | .lit (.string bytes) => bytes.length + 1
  | .lit _ => 1
  | .nil => 1
  | .ptr d => uptoBulk d + 1
  | .slice elems spare => uptoBulkAll elems + uptoBulkAll spare + 1
  | .agg parts => uptoBulkAll parts + 1
  | .iface _ d => uptoBulk d + 1
  | .map entries => uptoBulkEntries entries + 1
  | .held _ => 1
def uptoBulkAll {H : Type} : List (DataW H) → Nat
  | [] => 0
  | d :: r => uptoBulk d + uptoBulkAll r
def uptoBulkEntries {H : Type} : List (Lit × DataW H) → Nat
  | [] => 0
  | x :: r => uptoBulkEntry x + uptoBulkEntries r
def uptoBulkEntry {H : Type} : Lit × DataW H → Nat
  | (.string bytes, d) => bytes.length + uptoBulk d + 1
  | (_, d) => uptoBulk d + 1
 end
def uptoSmall : (H : Type) → List (DataW H) → Bool := fun _ ds => decide (uptoBulkAll ds ≤ 1048576)
def OpenSpec.upto (s : _root_.Go.ChangeSpec) : _root_.Go.OpenSpec := { _root_.Go.OpenSpec.ofChange s with cond := some uptoSmall }

/-- 'wicketgatelaw09.ChainAdds', WHERE WHAT IT READS IS OF BULK AT MOST 1048576: true; the input reads as it did. -/
def chainAddsUptoRow : OpenClaim := { program := "ytelfdpcenplhjaagreatdoor", sum := "8161f68301a09830b5db4cb1c00f5cf030b7dd41875cc208d1b4b50592c7c1cb", func := "wicketgate/wicketgatelaw09.ChainAdds", spec := "chainAdds", inPlace := ["slices.overlaps[wicketgate/api.Node]"], unfollowed := true, recurses := true, named := ["wicketgate/insn.kinds", "wicketgate/action.halves"], apart := false, laid := [("wicketgate/action.halves", laid_wicketgate_action_halves), ("wicketgate/insn.kinds", laid_wicketgate_insn_kinds)], narrowed := true }
def ChainAddsUptoSaid : Prop := chainAddsUptoRow.holds Tryz.pinned (OpenSpec.upto chainAddsSpec)

/-- 'wicketgatelaw09.ChainCounts', WHERE WHAT IT READS IS OF BULK AT MOST 1048576: true; the input reads as it did. -/
def chainCountsUptoRow : OpenClaim := { program := "ytelfdpcenplhjaagreatdoor", sum := "8161f68301a09830b5db4cb1c00f5cf030b7dd41875cc208d1b4b50592c7c1cb", func := "wicketgate/wicketgatelaw09.ChainCounts", spec := "chainCounts", inPlace := ["slices.overlaps[wicketgate/api.Node]"], unfollowed := true, recurses := true, named := ["wicketgate/insn.kinds", "wicketgate/action.halves"], apart := false, laid := [("wicketgate/action.halves", laid_wicketgate_action_halves), ("wicketgate/insn.kinds", laid_wicketgate_insn_kinds)], narrowed := true }
def ChainCountsUptoSaid : Prop := chainCountsUptoRow.holds Tryz.pinned (OpenSpec.upto chainCountsSpec)

/-- 'wicketgatelaw09.ChainTells', WHERE WHAT IT READS IS OF BULK AT MOST 1048576: true; the input reads as it did. -/
def chainTellsUptoRow : OpenClaim := { program := "ytelfdpcenplhjaagreatdoor", sum := "8161f68301a09830b5db4cb1c00f5cf030b7dd41875cc208d1b4b50592c7c1cb", func := "wicketgate/wicketgatelaw09.ChainTells", spec := "chainTells", inPlace := ["slices.overlaps[wicketgate/api.Node]"], unfollowed := true, recurses := true, named := ["wicketgate/insn.kinds", "wicketgate/action.halves"], apart := false, laid := [("wicketgate/action.halves", laid_wicketgate_action_halves), ("wicketgate/insn.kinds", laid_wicketgate_insn_kinds)], narrowed := true }
def ChainTellsUptoSaid : Prop := chainTellsUptoRow.holds Tryz.pinned (OpenSpec.upto chainTellsSpec)

/-- 'wicketgatelaw09.ChainBack', WHERE WHAT IT READS IS OF BULK AT MOST 1048576: true; the input reads as it did. -/
def chainBackUptoRow : OpenClaim := { program := "ytelfdpcenplhjaagreatdoor", sum := "8161f68301a09830b5db4cb1c00f5cf030b7dd41875cc208d1b4b50592c7c1cb", func := "wicketgate/wicketgatelaw09.ChainBack", spec := "chainBack", inPlace := ["slices.overlaps[wicketgate/api.Node]"], unfollowed := true, recurses := true, named := ["wicketgate/insn.kinds", "wicketgate/action.halves"], apart := false, laid := [("wicketgate/action.halves", laid_wicketgate_action_halves), ("wicketgate/insn.kinds", laid_wicketgate_insn_kinds)], narrowed := true }
def ChainBackUptoSaid : Prop := chainBackUptoRow.holds Tryz.pinned (OpenSpec.upto chainBackSpec)

/-- 'wicketgatelaw09.ChainOwned', WHERE WHAT IT READS IS OF BULK AT MOST 1048576: true; the input reads as it did. -/
def chainOwnedUptoRow : OpenClaim := { program := "ytelfdpcenplhjaagreatdoor", sum := "8161f68301a09830b5db4cb1c00f5cf030b7dd41875cc208d1b4b50592c7c1cb", func := "wicketgate/wicketgatelaw09.ChainOwned", spec := "chainOwned", inPlace := ["slices.overlaps[wicketgate/api.Node]"], unfollowed := true, recurses := true, named := ["wicketgate/insn.kinds", "wicketgate/action.halves"], apart := false, laid := [("wicketgate/action.halves", laid_wicketgate_action_halves), ("wicketgate/insn.kinds", laid_wicketgate_insn_kinds)], narrowed := true }
def ChainOwnedUptoSaid : Prop := chainOwnedUptoRow.holds Tryz.pinned (OpenSpec.upto chainOwnedSpec)

/-- 'wicketgatelaw09.ChainTighter', WHERE WHAT IT READS IS OF BULK AT MOST 1048576: true; the input reads as it did. -/
def chainTighterUptoRow : OpenClaim := { program := "ytelfdpcenplhjaagreatdoor", sum := "8161f68301a09830b5db4cb1c00f5cf030b7dd41875cc208d1b4b50592c7c1cb", func := "wicketgate/wicketgatelaw09.ChainTighter", spec := "chainTighter", inPlace := ["slices.overlaps[wicketgate/api.Node]"], unfollowed := true, recurses := true, named := ["wicketgate/insn.kinds", "wicketgate/action.halves"], apart := false, laid := [("wicketgate/action.halves", laid_wicketgate_action_halves), ("wicketgate/insn.kinds", laid_wicketgate_insn_kinds)], narrowed := true }
def ChainTighterUptoSaid : Prop := chainTighterUptoRow.holds Tryz.pinned (OpenSpec.upto chainTighterSpec)

end Rows
end Go.Proofs.YtelfdpcenplhjaaGreatDoor
