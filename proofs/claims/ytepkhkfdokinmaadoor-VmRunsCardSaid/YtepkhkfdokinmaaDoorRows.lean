/-
  NARROWER THAN 'FOR EVERY INPUT', by the rows' own cells (each row's printed sentence says how): VmAlu: laid · VmSteps: laid · VmRuns: laid · VmEnds: laid · VmSees: laid.
  DERIVED. THE GIVEN ROWS OF THIS SEAT. 5 by the template 'for every input the law returns true; each argument reads behind the call as it read before'; 0 by the template 'total and deterministic' (their statements: YtepkhkfdokinmaaDoorTotals.lean).
  GIVEN WITH THE SEED: the statements are not yours to turn. If you find one false, say at which input.
  Laid BY PROGRAM, IN A SANDBOX (cutbox-rows.mjs): the forced cells as the released guide's own fill.sh prints them over the translation c591cedb04b88baf… (all of the seat's roots in one cut). By AI agents, Wed Nov 11 2026. No macro, syntax, notation, axiom, sorry.
-/
import Derived.Test.YtepkhkfdokinmaaDoorChecked
import GoSem.Claim
import GoSem.ClaimJoined
import GoSem.ClaimMapViews
import Derived.JoinedTies
import Derived.KernelRfl
namespace Go.Proofs.YtepkhkfdokinmaaDoor
/- THE CELL 'sum', in the pinned program and in every row, IS THE sha256 OF THE DUMP (.gsa) THAT YtepkhkfdokinmaaDoorProg.lean LOADS. Nothing in Lean hashes anything: it is a label: what it is worth is what the hold of that sum in a sandbox is worth. -/
noncomputable def Tryd.pinned : Pinned := { name := "ytepkhkfdokinmaadoor", sum := "c591cedb04b88baf3c947a045cb1435d74bdbf922347f6b0973f349fbabff98c", checked := Tryd.checked }
namespace Rows
def none {H : Type} : Left H := { results := [], args := [] }

/- WHAT THE LISTED PACKAGE-LEVEL VARIABLES READ AS WHEN THE CALL BEGINS. Each datum BY PROGRAM (the guide's laid-datum.mjs) off the statement by which the dump's own 'gosem.cut.vars' lays the variable. In a bare row this is a premise. The card (YtepkhkfdokinmaaDoorCards.lean) ties it to the program's text. -/
def laid_wicketgate_insn_kinds {H : Type} : DataW H := .agg [.agg [.lit (.int .u16 0), .lit (.string [108, 100, 46, 105, 109, 109]), .lit (.int .i64 1)], .agg [.lit (.int .u16 1), .lit (.string [108, 100, 120, 46, 105, 109, 109]), .lit (.int .i64 1)], .agg [.lit (.int .u16 2), .lit (.string [115, 116]), .lit (.int .i64 3)], .agg [.lit (.int .u16 3), .lit (.string [115, 116, 120]), .lit (.int .i64 3)], .agg [.lit (.int .u16 4), .lit (.string [97, 100, 100, 46, 107]), .lit (.int .i64 1)], .agg [.lit (.int .u16 5), .lit (.string [106, 97]), .lit (.int .i64 4)], .agg [.lit (.int .u16 6), .lit (.string [114, 101, 116, 46, 107]), .lit (.int .i64 1)], .agg [.lit (.int .u16 7), .lit (.string [116, 97, 120]), .lit (.int .i64 0)], .agg [.lit (.int .u16 12), .lit (.string [97, 100, 100, 46, 120]), .lit (.int .i64 0)], .agg [.lit (.int .u16 20), .lit (.string [115, 117, 98, 46, 107]), .lit (.int .i64 1)], .agg [.lit (.int .u16 21), .lit (.string [106, 101, 113, 46, 107]), .lit (.int .i64 5)], .agg [.lit (.int .u16 22), .lit (.string [114, 101, 116, 46, 97]), .lit (.int .i64 0)], .agg [.lit (.int .u16 28), .lit (.string [115, 117, 98, 46, 120]), .lit (.int .i64 0)], .agg [.lit (.int .u16 29), .lit (.string [106, 101, 113, 46, 120]), .lit (.int .i64 6)], .agg [.lit (.int .u16 32), .lit (.string [108, 100, 46, 97, 98, 115]), .lit (.int .i64 2)], .agg [.lit (.int .u16 36), .lit (.string [109, 117, 108, 46, 107]), .lit (.int .i64 1)], .agg [.lit (.int .u16 37), .lit (.string [106, 103, 116, 46, 107]), .lit (.int .i64 5)], .agg [.lit (.int .u16 44), .lit (.string [109, 117, 108, 46, 120]), .lit (.int .i64 0)], .agg [.lit (.int .u16 45), .lit (.string [106, 103, 116, 46, 120]), .lit (.int .i64 6)], .agg [.lit (.int .u16 52), .lit (.string [100, 105, 118, 46, 107]), .lit (.int .i64 1)], .agg [.lit (.int .u16 53), .lit (.string [106, 103, 101, 46, 107]), .lit (.int .i64 5)], .agg [.lit (.int .u16 60), .lit (.string [100, 105, 118, 46, 120]), .lit (.int .i64 0)], .agg [.lit (.int .u16 61), .lit (.string [106, 103, 101, 46, 120]), .lit (.int .i64 6)], .agg [.lit (.int .u16 68), .lit (.string [111, 114, 46, 107]), .lit (.int .i64 1)], .agg [.lit (.int .u16 69), .lit (.string [106, 115, 101, 116, 46, 107]), .lit (.int .i64 5)], .agg [.lit (.int .u16 76), .lit (.string [111, 114, 46, 120]), .lit (.int .i64 0)], .agg [.lit (.int .u16 77), .lit (.string [106, 115, 101, 116, 46, 120]), .lit (.int .i64 6)], .agg [.lit (.int .u16 84), .lit (.string [97, 110, 100, 46, 107]), .lit (.int .i64 1)], .agg [.lit (.int .u16 92), .lit (.string [97, 110, 100, 46, 120]), .lit (.int .i64 0)], .agg [.lit (.int .u16 96), .lit (.string [108, 100, 46, 109, 101, 109]), .lit (.int .i64 3)], .agg [.lit (.int .u16 97), .lit (.string [108, 100, 120, 46, 109, 101, 109]), .lit (.int .i64 3)], .agg [.lit (.int .u16 100), .lit (.string [108, 115, 104, 46, 107]), .lit (.int .i64 1)], .agg [.lit (.int .u16 108), .lit (.string [108, 115, 104, 46, 120]), .lit (.int .i64 0)], .agg [.lit (.int .u16 116), .lit (.string [114, 115, 104, 46, 107]), .lit (.int .i64 1)], .agg [.lit (.int .u16 124), .lit (.string [114, 115, 104, 46, 120]), .lit (.int .i64 0)], .agg [.lit (.int .u16 128), .lit (.string [108, 100, 46, 108, 101, 110]), .lit (.int .i64 0)], .agg [.lit (.int .u16 129), .lit (.string [108, 100, 120, 46, 108, 101, 110]), .lit (.int .i64 0)], .agg [.lit (.int .u16 132), .lit (.string [110, 101, 103]), .lit (.int .i64 0)], .agg [.lit (.int .u16 135), .lit (.string [116, 120, 97]), .lit (.int .i64 0)], .agg [.lit (.int .u16 164), .lit (.string [120, 111, 114, 46, 107]), .lit (.int .i64 1)], .agg [.lit (.int .u16 172), .lit (.string [120, 111, 114, 46, 120]), .lit (.int .i64 0)]]

/-- 'wicketgatelaw05.VmAlu': WHATEVER THE INPUT: true; the input reads as it did. -/
def vmAluSpec : ChangeSpec := { name := "vmAlu", fn := fun _ => fun
  | [d1, d2, d3] => { results := [.lit (.bool true)], args := [d1, d2, d3] }
  | _ => none }
def vmAluRow : OpenClaim := { program := "ytepkhkfdokinmaadoor", sum := "c591cedb04b88baf3c947a045cb1435d74bdbf922347f6b0973f349fbabff98c", func := "wicketgate/wicketgatelaw05.VmAlu", spec := "vmAlu", unfollowed := true, recurses := true, named := ["wicketgate/insn.kinds"], apart := false, laid := [("wicketgate/insn.kinds", laid_wicketgate_insn_kinds)] }
def VmAluSaid : Prop := vmAluRow.holds Tryd.pinned (OpenSpec.ofChange vmAluSpec)

/-- ITS FALSE NEIGHBOUR: 'it returns false'. Refute it at one input. -/
def vmAluWrong : ChangeSpec := { name := "vmAlu", fn := fun _ => fun
  | [d1, d2, d3] => { results := [.lit (.bool false)], args := [d1, d2, d3] }
  | _ => none }
def VmAluWrongFalsely : Prop := vmAluRow.holds Tryd.pinned (OpenSpec.ofChange vmAluWrong)

/-- 'wicketgatelaw05.VmSteps': WHATEVER THE INPUT: true; the input reads as it did. -/
def vmStepsSpec : ChangeSpec := { name := "vmSteps", fn := fun _ => fun
  | [d1, d2, d3] => { results := [.lit (.bool true)], args := [d1, d2, d3] }
  | _ => none }
def vmStepsRow : OpenClaim := { program := "ytepkhkfdokinmaadoor", sum := "c591cedb04b88baf3c947a045cb1435d74bdbf922347f6b0973f349fbabff98c", func := "wicketgate/wicketgatelaw05.VmSteps", spec := "vmSteps", unfollowed := true, recurses := true, named := ["wicketgate/insn.kinds"], apart := false, laid := [("wicketgate/insn.kinds", laid_wicketgate_insn_kinds)] }
def VmStepsSaid : Prop := vmStepsRow.holds Tryd.pinned (OpenSpec.ofChange vmStepsSpec)

/-- ITS FALSE NEIGHBOUR: 'it returns false'. Refute it at one input. -/
def vmStepsWrong : ChangeSpec := { name := "vmSteps", fn := fun _ => fun
  | [d1, d2, d3] => { results := [.lit (.bool false)], args := [d1, d2, d3] }
  | _ => none }
def VmStepsWrongFalsely : Prop := vmStepsRow.holds Tryd.pinned (OpenSpec.ofChange vmStepsWrong)

/-- 'wicketgatelaw05.VmRuns': WHATEVER THE INPUT: true; the input reads as it did. -/
def vmRunsSpec : ChangeSpec := { name := "vmRuns", fn := fun _ => fun
  | [d1, d2] => { results := [.lit (.bool true)], args := [d1, d2] }
  | _ => none }
def vmRunsRow : OpenClaim := { program := "ytepkhkfdokinmaadoor", sum := "c591cedb04b88baf3c947a045cb1435d74bdbf922347f6b0973f349fbabff98c", func := "wicketgate/wicketgatelaw05.VmRuns", spec := "vmRuns", unfollowed := true, recurses := true, named := ["wicketgate/insn.kinds"], apart := false, laid := [("wicketgate/insn.kinds", laid_wicketgate_insn_kinds)] }
def VmRunsSaid : Prop := vmRunsRow.holds Tryd.pinned (OpenSpec.ofChange vmRunsSpec)

/-- ITS FALSE NEIGHBOUR: 'it returns false'. Refute it at one input. -/
def vmRunsWrong : ChangeSpec := { name := "vmRuns", fn := fun _ => fun
  | [d1, d2] => { results := [.lit (.bool false)], args := [d1, d2] }
  | _ => none }
def VmRunsWrongFalsely : Prop := vmRunsRow.holds Tryd.pinned (OpenSpec.ofChange vmRunsWrong)

/-- 'wicketgatelaw05.VmEnds': WHATEVER THE INPUT: true; the input reads as it did. -/
def vmEndsSpec : ChangeSpec := { name := "vmEnds", fn := fun _ => fun
  | [d1, d2] => { results := [.lit (.bool true)], args := [d1, d2] }
  | _ => none }
def vmEndsRow : OpenClaim := { program := "ytepkhkfdokinmaadoor", sum := "c591cedb04b88baf3c947a045cb1435d74bdbf922347f6b0973f349fbabff98c", func := "wicketgate/wicketgatelaw05.VmEnds", spec := "vmEnds", unfollowed := true, recurses := true, named := ["wicketgate/insn.kinds"], apart := false, laid := [("wicketgate/insn.kinds", laid_wicketgate_insn_kinds)] }
def VmEndsSaid : Prop := vmEndsRow.holds Tryd.pinned (OpenSpec.ofChange vmEndsSpec)

/-- ITS FALSE NEIGHBOUR: 'it returns false'. Refute it at one input. -/
def vmEndsWrong : ChangeSpec := { name := "vmEnds", fn := fun _ => fun
  | [d1, d2] => { results := [.lit (.bool false)], args := [d1, d2] }
  | _ => none }
def VmEndsWrongFalsely : Prop := vmEndsRow.holds Tryd.pinned (OpenSpec.ofChange vmEndsWrong)

/-- 'wicketgatelaw05.VmSees': WHATEVER THE INPUT: true; the input reads as it did. -/
def vmSeesSpec : ChangeSpec := { name := "vmSees", fn := fun _ => fun
  | [d1, d2, d3] => { results := [.lit (.bool true)], args := [d1, d2, d3] }
  | _ => none }
def vmSeesRow : OpenClaim := { program := "ytepkhkfdokinmaadoor", sum := "c591cedb04b88baf3c947a045cb1435d74bdbf922347f6b0973f349fbabff98c", func := "wicketgate/wicketgatelaw05.VmSees", spec := "vmSees", unfollowed := true, recurses := true, named := ["wicketgate/insn.kinds"], apart := false, laid := [("wicketgate/insn.kinds", laid_wicketgate_insn_kinds)] }
def VmSeesSaid : Prop := vmSeesRow.holds Tryd.pinned (OpenSpec.ofChange vmSeesSpec)

/-- ITS FALSE NEIGHBOUR: 'it returns false'. Refute it at one input. -/
def vmSeesWrong : ChangeSpec := { name := "vmSees", fn := fun _ => fun
  | [d1, d2, d3] => { results := [.lit (.bool false)], args := [d1, d2, d3] }
  | _ => none }
def VmSeesWrongFalsely : Prop := vmSeesRow.holds Tryd.pinned (OpenSpec.ofChange vmSeesWrong)

/- THE SECOND FORM. 'bulk': how many values and letters a reading holds, each counted each time it is reached (what is shared counts as often as it is met; a slice's spare places count too). A statement '..UptoSaid' is the law's where the arguments, and the package variables that the reading takes, are together of bulk at most 1048576: NARROWER than '..Said'. Prove '..Said' where nothing that the law and all that it calls make is longer than what came in: it says more and counts as full. Else prove '..UptoSaid'. A law counts once. -/
mutual
def uptoBulk {H : Type} : DataW H → Nat
  | .lit (.string bytes) => bytes.length + 1
  | .lit _ => 1
  | .nil => 1
  | .ptr d => uptoBulk d + 1
  | .slice elems spare => uptoBulkAll elems + uptoBulkAll spare + 1
  | .agg parts => uptoBulkAll parts + 1
  | .iface _ d => uptoBulk d + 1
  | .map entries => uptoBulkEntries entries + 1
  | .held _ => 1
def uptoBulkAll {H : Type} : List (DataW H) → Nat
  | [] => 0
  | d :: r => uptoBulk d + uptoBulkAll r
def uptoBulkEntries {H : Type} : List (Lit × DataW H) → Nat
  | [] => 0
  | x :: r => uptoBulkEntry x + uptoBulkEntries r
def uptoBulkEntry {H : Type} : Lit × DataW H → Nat
  | (.string bytes, d) => bytes.length + uptoBulk d + 1
  | (_, d) => uptoBulk d + 1
 end
def uptoSmall : (H : Type) → List (DataW H) → Bool := fun _ ds => decide (uptoBulkAll ds ≤ 1048576)
def OpenSpec.upto (s : _root_.Go.ChangeSpec) : _root_.Go.OpenSpec := { _root_.Go.OpenSpec.ofChange s with cond := some uptoSmall }

/-- 'wicketgatelaw05.VmAlu', WHERE WHAT IT READS IS OF BULK AT MOST 1048576: true; the input reads as it did. -/
def vmAluUptoRow : OpenClaim := { program := "ytepkhkfdokinmaadoor", sum := "c591cedb04b88baf3c947a045cb1435d74bdbf922347f6b0973f349fbabff98c", func := "wicketgate/wicketgatelaw05.VmAlu", spec := "vmAlu", unfollowed := true, recurses := true, named := ["wicketgate/insn.kinds"], apart := false, laid := [("wicketgate/insn.kinds", laid_wicketgate_insn_kinds)], narrowed := true }
def VmAluUptoSaid : Prop := vmAluUptoRow.holds Tryd.pinned (OpenSpec.upto vmAluSpec)

/-- 'wicketgatelaw05.VmSteps', WHERE WHAT IT READS IS OF BULK AT MOST 1048576: true; the input reads as it did. -/
def vmStepsUptoRow : OpenClaim := { program := "ytepkhkfdokinmaadoor", sum := "c591cedb04b88baf3c947a045cb1435d74bdbf922347f6b0973f349fbabff98c", func := "wicketgate/wicketgatelaw05.VmSteps", spec := "vmSteps", unfollowed := true, recurses := true, named := ["wicketgate/insn.kinds"], apart := false, laid := [("wicketgate/insn.kinds", laid_wicketgate_insn_kinds)], narrowed := true }
def VmStepsUptoSaid : Prop := vmStepsUptoRow.holds Tryd.pinned (OpenSpec.upto vmStepsSpec)

/-- 'wicketgatelaw05.VmRuns', WHERE WHAT IT READS IS OF BULK AT MOST 1048576: true; the input reads as it did. -/
def vmRunsUptoRow : OpenClaim := { program := "ytepkhkfdokinmaadoor", sum := "c591cedb04b88baf3c947a045cb1435d74bdbf922347f6b0973f349fbabff98c", func := "wicketgate/wicketgatelaw05.VmRuns", spec := "vmRuns", unfollowed := true, recurses := true, named := ["wicketgate/insn.kinds"], apart := false, laid := [("wicketgate/insn.kinds", laid_wicketgate_insn_kinds)], narrowed := true }
def VmRunsUptoSaid : Prop := vmRunsUptoRow.holds Tryd.pinned (OpenSpec.upto vmRunsSpec)

/-- 'wicketgatelaw05.VmEnds', WHERE WHAT IT READS IS OF BULK AT MOST 1048576: true; the input reads as it did. -/
def vmEndsUptoRow : OpenClaim := { program := "ytepkhkfdokinmaadoor", sum := "c591cedb04b88baf3c947a045cb1435d74bdbf922347f6b0973f349fbabff98c", func := "wicketgate/wicketgatelaw05.VmEnds", spec := "vmEnds", unfollowed := true, recurses := true, named := ["wicketgate/insn.kinds"], apart := false, laid := [("wicketgate/insn.kinds", laid_wicketgate_insn_kinds)], narrowed := true }
def VmEndsUptoSaid : Prop := vmEndsUptoRow.holds Tryd.pinned (OpenSpec.upto vmEndsSpec)

/-- 'wicketgatelaw05.VmSees', WHERE WHAT IT READS IS OF BULK AT MOST 1048576: true; the input reads as it did. -/
def vmSeesUptoRow : OpenClaim := { program := "ytepkhkfdokinmaadoor", sum := "c591cedb04b88baf3c947a045cb1435d74bdbf922347f6b0973f349fbabff98c", func := "wicketgate/wicketgatelaw05.VmSees", spec := "vmSees", unfollowed := true, recurses := true, named := ["wicketgate/insn.kinds"], apart := false, laid := [("wicketgate/insn.kinds", laid_wicketgate_insn_kinds)], narrowed := true }
def VmSeesUptoSaid : Prop := vmSeesUptoRow.holds Tryd.pinned (OpenSpec.upto vmSeesSpec)

end Rows
end Go.Proofs.YtepkhkfdokinmaaDoor
