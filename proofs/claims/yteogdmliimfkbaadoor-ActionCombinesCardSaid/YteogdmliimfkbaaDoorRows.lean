/-
  NARROWER THAN 'FOR EVERY INPUT', by the rows' own cells (each row's printed sentence says how): ActionSplits: laid · ActionNames: laid · ActionCombines: laid · ActionBack: laid · ActionTighter: laid.
  DERIVED. THE GIVEN ROWS OF THIS SEAT. 5 by the template 'for every input the law returns true; each argument reads behind the call as it read before'; 0 by the template 'total and deterministic' (their statements: YteogdmliimfkbaaDoorTotals.lean).
  GIVEN WITH THE SEED: the statements are not yours to turn. If you find one false, say at which input.
  Laid BY PROGRAM, IN A SANDBOX (cutbox-rows.mjs): the forced cells as the released guide's own fill.sh prints them over the translation e177eb888de7a569… (all of the seat's roots in one cut). By AI agents, Wed Nov 11 2026. No macro, syntax, notation, axiom, sorry.
-/
import Derived.Test.YteogdmliimfkbaaDoorChecked
import GoSem.Claim
import GoSem.ClaimJoined
import GoSem.ClaimMapViews
import Derived.JoinedTies
import Derived.KernelRfl
namespace Go.Proofs.YteogdmliimfkbaaDoor
/- THE CELL 'sum', in the pinned program and in every row, IS THE sha256 OF THE DUMP (.gsa) THAT YteogdmliimfkbaaDoorProg.lean LOADS. Nothing in Lean hashes anything: it is a label: what it is worth is what the hold of that sum in a sandbox is worth. -/
noncomputable def Tryd.pinned : Pinned := { name := "yteogdmliimfkbaadoor", sum := "e177eb888de7a569524e00054be42824af26f0fe1081d85d681ae2558f379c89", checked := Tryd.checked }
namespace Rows
def none {H : Type} : Left H := { results := [], args := [] }

/- WHAT THE LISTED PACKAGE-LEVEL VARIABLES READ AS WHEN THE CALL BEGINS. Each datum BY PROGRAM (the guide's laid-datum.mjs) off the statement by which the dump's own 'gosem.cut.vars' lays the variable. In a bare row this is a premise. The card (YteogdmliimfkbaaDoorCards.lean) ties it to the program's text. -/
def laid_wicketgate_action_halves {H : Type} : DataW H := .agg [.lit (.int .u16 32768), .lit (.int .u16 0), .lit (.int .u16 3), .lit (.int .u16 5), .lit (.int .u16 32704), .lit (.int .u16 32752), .lit (.int .u16 32764), .lit (.int .u16 32767)]
def laid_wicketgate_action_names {H : Type} : DataW H := .agg [.lit (.string [107, 105, 108, 108, 46, 112, 114, 111, 99, 101, 115, 115]), .lit (.string [107, 105, 108, 108, 46, 116, 104, 114, 101, 97, 100]), .lit (.string [116, 114, 97, 112]), .lit (.string [101, 114, 114, 110, 111]), .lit (.string [110, 111, 116, 105, 102, 121]), .lit (.string [116, 114, 97, 99, 101]), .lit (.string [108, 111, 103]), .lit (.string [97, 108, 108, 111, 119])]

/-- 'wicketgatelaw06.ActionSplits': WHATEVER THE INPUT: true; the input reads as it did. -/
def actionSplitsSpec : ChangeSpec := { name := "actionSplits", fn := fun _ => fun
  | [d1, d2] => { results := [.lit (.bool true)], args := [d1, d2] }
  | _ => none }
def actionSplitsRow : OpenClaim := { program := "yteogdmliimfkbaadoor", sum := "e177eb888de7a569524e00054be42824af26f0fe1081d85d681ae2558f379c89", func := "wicketgate/wicketgatelaw06.ActionSplits", spec := "actionSplits", unfollowed := true, recurses := true, named := ["wicketgate/action.halves", "wicketgate/action.names"], apart := false, laid := [("wicketgate/action.halves", laid_wicketgate_action_halves), ("wicketgate/action.names", laid_wicketgate_action_names)] }
def ActionSplitsSaid : Prop := actionSplitsRow.holds Tryd.pinned (OpenSpec.ofChange actionSplitsSpec)

/-- ITS FALSE NEIGHBOUR: 'it returns false'. Refute it at one input. -/
def actionSplitsWrong : ChangeSpec := { name := "actionSplits", fn := fun _ => fun
  | [d1, d2] => { results := [.lit (.bool false)], args := [d1, d2] }
  | _ => none }
def ActionSplitsWrongFalsely : Prop := actionSplitsRow.holds Tryd.pinned (OpenSpec.ofChange actionSplitsWrong)

/-- 'wicketgatelaw06.ActionNames': WHATEVER THE INPUT: true; the input reads as it did. -/
def actionNamesSpec : ChangeSpec := { name := "actionNames", fn := fun _ => fun
  | [d1, d2] => { results := [.lit (.bool true)], args := [d1, d2] }
  | _ => none }
def actionNamesRow : OpenClaim := { program := "yteogdmliimfkbaadoor", sum := "e177eb888de7a569524e00054be42824af26f0fe1081d85d681ae2558f379c89", func := "wicketgate/wicketgatelaw06.ActionNames", spec := "actionNames", unfollowed := true, recurses := true, named := ["wicketgate/action.halves", "wicketgate/action.names"], apart := false, laid := [("wicketgate/action.halves", laid_wicketgate_action_halves), ("wicketgate/action.names", laid_wicketgate_action_names)] }
def ActionNamesSaid : Prop := actionNamesRow.holds Tryd.pinned (OpenSpec.ofChange actionNamesSpec)

/-- ITS FALSE NEIGHBOUR: 'it returns false'. Refute it at one input. -/
def actionNamesWrong : ChangeSpec := { name := "actionNames", fn := fun _ => fun
  | [d1, d2] => { results := [.lit (.bool false)], args := [d1, d2] }
  | _ => none }
def ActionNamesWrongFalsely : Prop := actionNamesRow.holds Tryd.pinned (OpenSpec.ofChange actionNamesWrong)

/-- 'wicketgatelaw06.ActionCombines': WHATEVER THE INPUT: true; the input reads as it did. -/
def actionCombinesSpec : ChangeSpec := { name := "actionCombines", fn := fun _ => fun
  | [d] => { results := [.lit (.bool true)], args := [d] }
  | _ => none }
def actionCombinesRow : OpenClaim := { program := "yteogdmliimfkbaadoor", sum := "e177eb888de7a569524e00054be42824af26f0fe1081d85d681ae2558f379c89", func := "wicketgate/wicketgatelaw06.ActionCombines", spec := "actionCombines", unfollowed := true, recurses := true, named := ["wicketgate/action.halves", "wicketgate/action.names"], apart := false, laid := [("wicketgate/action.halves", laid_wicketgate_action_halves), ("wicketgate/action.names", laid_wicketgate_action_names)] }
def ActionCombinesSaid : Prop := actionCombinesRow.holds Tryd.pinned (OpenSpec.ofChange actionCombinesSpec)

/-- ITS FALSE NEIGHBOUR: 'it returns false'. Refute it at one input. -/
def actionCombinesWrong : ChangeSpec := { name := "actionCombines", fn := fun _ => fun
  | [d] => { results := [.lit (.bool false)], args := [d] }
  | _ => none }
def ActionCombinesWrongFalsely : Prop := actionCombinesRow.holds Tryd.pinned (OpenSpec.ofChange actionCombinesWrong)

/-- 'wicketgatelaw06.ActionBack': WHATEVER THE INPUT: true; the input reads as it did. -/
def actionBackSpec : ChangeSpec := { name := "actionBack", fn := fun _ => fun
  | [d1, d2] => { results := [.lit (.bool true)], args := [d1, d2] }
  | _ => none }
def actionBackRow : OpenClaim := { program := "yteogdmliimfkbaadoor", sum := "e177eb888de7a569524e00054be42824af26f0fe1081d85d681ae2558f379c89", func := "wicketgate/wicketgatelaw06.ActionBack", spec := "actionBack", unfollowed := true, recurses := true, named := ["wicketgate/action.halves", "wicketgate/action.names"], apart := false, laid := [("wicketgate/action.halves", laid_wicketgate_action_halves), ("wicketgate/action.names", laid_wicketgate_action_names)] }
def ActionBackSaid : Prop := actionBackRow.holds Tryd.pinned (OpenSpec.ofChange actionBackSpec)

/-- ITS FALSE NEIGHBOUR: 'it returns false'. Refute it at one input. -/
def actionBackWrong : ChangeSpec := { name := "actionBack", fn := fun _ => fun
  | [d1, d2] => { results := [.lit (.bool false)], args := [d1, d2] }
  | _ => none }
def ActionBackWrongFalsely : Prop := actionBackRow.holds Tryd.pinned (OpenSpec.ofChange actionBackWrong)

/-- 'wicketgatelaw06.ActionTighter': WHATEVER THE INPUT: true; the input reads as it did. -/
def actionTighterSpec : ChangeSpec := { name := "actionTighter", fn := fun _ => fun
  | [d1, d2] => { results := [.lit (.bool true)], args := [d1, d2] }
  | _ => none }
def actionTighterRow : OpenClaim := { program := "yteogdmliimfkbaadoor", sum := "e177eb888de7a569524e00054be42824af26f0fe1081d85d681ae2558f379c89", func := "wicketgate/wicketgatelaw06.ActionTighter", spec := "actionTighter", unfollowed := true, recurses := true, named := ["wicketgate/action.halves", "wicketgate/action.names"], apart := false, laid := [("wicketgate/action.halves", laid_wicketgate_action_halves), ("wicketgate/action.names", laid_wicketgate_action_names)] }
def ActionTighterSaid : Prop := actionTighterRow.holds Tryd.pinned (OpenSpec.ofChange actionTighterSpec)

/-- ITS FALSE NEIGHBOUR: 'it returns false'. Refute it at one input. -/
def actionTighterWrong : ChangeSpec := { name := "actionTighter", fn := fun _ => fun
  | [d1, d2] => { results := [.lit (.bool false)], args := [d1, d2] }
  | _ => none }
def ActionTighterWrongFalsely : Prop := actionTighterRow.holds Tryd.pinned (OpenSpec.ofChange actionTighterWrong)

/- THE SECOND FORM. 'bulk': how many values and letters a reading holds, each counted each time it is reached (what is shared counts as often as it is met; a slice's spare places count too). A statement '..UptoSaid' is the law's where the arguments, and the package variables that the reading takes, are together of bulk at most 1048576: NARROWER than '..Said'. Prove '..Said' where nothing that the law and all that it calls make is longer than what came in: it says more and counts as full. Else prove '..UptoSaid'. A law counts once. -/
mutual
def uptoBulk {H : Type} : DataW H → Nat
  | .lit (.string bytes) => bytes.length + 1
  | .lit _ => 1
  | .nil => 1
  | .ptr d => uptoBulk d + 1
  | .slice elems spare => uptoBulkAll elems + uptoBulkAll spare + 1
  | .agg parts => uptoBulkAll parts + 1
  | .iface _ d => uptoBulk d + 1
  | .map entries => uptoBulkEntries entries + 1
  | .held _ => 1
def uptoBulkAll {H : Type} : List (DataW H) → Nat
  | [] => 0
  | d :: r => uptoBulk d + uptoBulkAll r
def uptoBulkEntries {H : Type} : List (Lit × DataW H) → Nat
  | [] => 0
  | x :: r => uptoBulkEntry x + uptoBulkEntries r
def uptoBulkEntry {H : Type} : Lit × DataW H → Nat
  | (.string bytes, d) => bytes.length + uptoBulk d + 1
  | (_, d) => uptoBulk d + 1
 end
def uptoSmall : (H : Type) → List (DataW H) → Bool := fun _ ds => decide (uptoBulkAll ds ≤ 1048576)
def OpenSpec.upto (s : _root_.Go.ChangeSpec) : _root_.Go.OpenSpec := { _root_.Go.OpenSpec.ofChange s with cond := some uptoSmall }

/-- 'wicketgatelaw06.ActionSplits', WHERE WHAT IT READS IS OF BULK AT MOST 1048576: true; the input reads as it did. -/
def actionSplitsUptoRow : OpenClaim := { program := "yteogdmliimfkbaadoor", sum := "e177eb888de7a569524e00054be42824af26f0fe1081d85d681ae2558f379c89", func := "wicketgate/wicketgatelaw06.ActionSplits", spec := "actionSplits", unfollowed := true, recurses := true, named := ["wicketgate/action.halves", "wicketgate/action.names"], apart := false, laid := [("wicketgate/action.halves", laid_wicketgate_action_halves), ("wicketgate/action.names", laid_wicketgate_action_names)], narrowed := true }
def ActionSplitsUptoSaid : Prop := actionSplitsUptoRow.holds Tryd.pinned (OpenSpec.upto actionSplitsSpec)

/-- 'wicketgatelaw06.ActionNames', WHERE WHAT IT READS IS OF BULK AT MOST 1048576: true; the input reads as it did. -/
def actionNamesUptoRow : OpenClaim := { program := "yteogdmliimfkbaadoor", sum := "e177eb888de7a569524e00054be42824af26f0fe1081d85d681ae2558f379c89", func := "wicketgate/wicketgatelaw06.ActionNames", spec := "actionNames", unfollowed := true, recurses := true, named := ["wicketgate/action.halves", "wicketgate/action.names"], apart := false, laid := [("wicketgate/action.halves", laid_wicketgate_action_halves), ("wicketgate/action.names", laid_wicketgate_action_names)], narrowed := true }
def ActionNamesUptoSaid : Prop := actionNamesUptoRow.holds Tryd.pinned (OpenSpec.upto actionNamesSpec)

/-- 'wicketgatelaw06.ActionCombines', WHERE WHAT IT READS IS OF BULK AT MOST 1048576: true; the input reads as it did. -/
def actionCombinesUptoRow : OpenClaim := { program := "yteogdmliimfkbaadoor", sum := "e177eb888de7a569524e00054be42824af26f0fe1081d85d681ae2558f379c89", func := "wicketgate/wicketgatelaw06.ActionCombines", spec := "actionCombines", unfollowed := true, recurses := true, named := ["wicketgate/action.halves", "wicketgate/action.names"], apart := false, laid := [("wicketgate/action.halves", laid_wicketgate_action_halves), ("wicketgate/action.names", laid_wicketgate_action_names)], narrowed := true }
def ActionCombinesUptoSaid : Prop := actionCombinesUptoRow.holds Tryd.pinned (OpenSpec.upto actionCombinesSpec)

/-- 'wicketgatelaw06.ActionBack', WHERE WHAT IT READS IS OF BULK AT MOST 1048576: true; the input reads as it did. -/
def actionBackUptoRow : OpenClaim := { program := "yteogdmliimfkbaadoor", sum := "e177eb888de7a569524e00054be42824af26f0fe1081d85d681ae2558f379c89", func := "wicketgate/wicketgatelaw06.ActionBack", spec := "actionBack", unfollowed := true, recurses := true, named := ["wicketgate/action.halves", "wicketgate/action.names"], apart := false, laid := [("wicketgate/action.halves", laid_wicketgate_action_halves), ("wicketgate/action.names", laid_wicketgate_action_names)], narrowed := true }
def ActionBackUptoSaid : Prop := actionBackUptoRow.holds Tryd.pinned (OpenSpec.upto actionBackSpec)

/-- 'wicketgatelaw06.ActionTighter', WHERE WHAT IT READS IS OF BULK AT MOST 1048576: true; the input reads as it did. -/
def actionTighterUptoRow : OpenClaim := { program := "yteogdmliimfkbaadoor", sum := "e177eb888de7a569524e00054be42824af26f0fe1081d85d681ae2558f379c89", func := "wicketgate/wicketgatelaw06.ActionTighter", spec := "actionTighter", unfollowed := true, recurses := true, named := ["wicketgate/action.halves", "wicketgate/action.names"], apart := false, laid := [("wicketgate/action.halves", laid_wicketgate_action_halves), ("wicketgate/action.names", laid_wicketgate_action_names)], narrowed := true }
def ActionTighterUptoSaid : Prop := actionTighterUptoRow.holds Tryd.pinned (OpenSpec.upto actionTighterSpec)

end Rows
end Go.Proofs.YteogdmliimfkbaaDoor
