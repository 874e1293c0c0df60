/-
  No cell of these rows narrows 'for every input' (looked for: loops, veiled, ifaces, maps, wideKeys, modest, calm, conditions, laid).
  DERIVED. THE GIVEN ROWS OF THIS SEAT. 2 by the template 'for every input the law returns true; each argument reads behind the call as it read before'; 0 by the template 'total and deterministic' (their statements: YtlelhhgggnjndaaGreatTotals.lean).
  GIVEN WITH THE SEED: the statements are not yours to turn. If you find one false, say at which input.
  Laid BY PROGRAM, IN A SANDBOX (cutbox-rows.mjs): the forced cells as the released guide's own fill.sh prints them over the translation 6859340c2ee31d84… (all of the seat's roots in one cut). By AI agents, Wed Nov 11 2026. No macro, syntax, notation, axiom, sorry.
-/
import Derived.Test.YtlelhhgggnjndaaGreatChecked
import GoSem.Claim
import GoSem.ClaimJoined
import GoSem.ClaimMapViews
import Derived.JoinedTies
import Derived.KernelRfl
namespace Go.Proofs.YtlelhhgggnjndaaGreat
/- THE CELL 'sum', in the pinned program and in every row, IS THE sha256 OF THE DUMP (.gsa) THAT YtlelhhgggnjndaaGreatProg.lean LOADS. Nothing in Lean hashes anything: it is a label: what it is worth is what the hold of that sum in a sandbox is worth. -/
noncomputable def Tryz.pinned : Pinned := { name := "ytlelhhgggnjndaagreat", sum := "6859340c2ee31d84e9d70caf214471e6995eb4cdae6f1f6d0c966c9f5ebd0da9", checked := Tryz.checked }
namespace Rows
def none {H : Type} : Left H := { results := [], args := [] }

/-- 'wicketgatelaw12.TaskDoes': WHATEVER THE INPUT: true; the input reads as it did. -/
def taskDoesSpec : ChangeSpec := { name := "taskDoes", fn := fun _ => fun
  | [d1, d2] => { results := [.lit (.bool true)], args := [d1, d2] }
  | _ => none }
def taskDoesRow : OpenClaim := { program := "ytlelhhgggnjndaagreat", sum := "6859340c2ee31d84e9d70caf214471e6995eb4cdae6f1f6d0c966c9f5ebd0da9", func := "wicketgate/wicketgatelaw12.TaskDoes", spec := "taskDoes", inPlace := ["slices.overlaps[int]", "slices.overlaps[wicketgate/api.Proc]"], unfollowed := true, recurses := true, apart := false }
def TaskDoesSaid : Prop := taskDoesRow.holds Tryz.pinned (OpenSpec.ofChange taskDoesSpec)

/-- ITS FALSE NEIGHBOUR: 'it returns false'. Refute it at one input. -/
def taskDoesWrong : ChangeSpec := { name := "taskDoes", fn := fun _ => fun
  | [d1, d2] => { results := [.lit (.bool false)], args := [d1, d2] }
  | _ => none }
def TaskDoesWrongFalsely : Prop := taskDoesRow.holds Tryz.pinned (OpenSpec.ofChange taskDoesWrong)

/-- 'wicketgatelaw12.TaskTells': WHATEVER THE INPUT: true; the input reads as it did. -/
def taskTellsSpec : ChangeSpec := { name := "taskTells", fn := fun _ => fun
  | [d1, d2] => { results := [.lit (.bool true)], args := [d1, d2] }
  | _ => none }
def taskTellsRow : OpenClaim := { program := "ytlelhhgggnjndaagreat", sum := "6859340c2ee31d84e9d70caf214471e6995eb4cdae6f1f6d0c966c9f5ebd0da9", func := "wicketgate/wicketgatelaw12.TaskTells", spec := "taskTells", inPlace := ["slices.overlaps[int]", "slices.overlaps[wicketgate/api.Proc]"], unfollowed := true, recurses := true, apart := false }
def TaskTellsSaid : Prop := taskTellsRow.holds Tryz.pinned (OpenSpec.ofChange taskTellsSpec)

/-- ITS FALSE NEIGHBOUR: 'it returns false'. Refute it at one input. -/
def taskTellsWrong : ChangeSpec := { name := "taskTells", fn := fun _ => fun
  | [d1, d2] => { results := [.lit (.bool false)], args := [d1, d2] }
  | _ => none }
def TaskTellsWrongFalsely : Prop := taskTellsRow.holds Tryz.pinned (OpenSpec.ofChange taskTellsWrong)

/- THE SECOND FORM. 'bulk': how many values and letters a reading holds, each counted each time it is reached (what is shared counts as often as it is met; a slice's spare places count too). A statement '..UptoSaid' is the law's where the arguments, and the package variables that the reading takes, are together of bulk at most 1048576: NARROWER than '..Said'. Prove '..Said' where nothing that the law and all that it calls make is longer than what came in: it says more and counts as full. Else prove '..UptoSaid'. A law counts once. -/
mutual
def uptoBulk {H : Type} : DataW H → Nat
  | .lit (.string bytes) => bytes.length + 1
  | .lit _ => 1
  | .nil => 1
  | .ptr d => uptoBulk d + 1
  | .slice elems spare => uptoBulkAll elems + uptoBulkAll spare + 1
  | .agg parts => uptoBulkAll parts + 1
  | .iface _ d => uptoBulk d + 1
  | .map entries => uptoBulkEntries entries + 1
  | .held _ => 1
def uptoBulkAll {H : Type} : List (DataW H) → Nat
  | [] => 0
  | d :: r => uptoBulk d + uptoBulkAll r
def uptoBulkEntries {H : Type} : List (Lit × DataW H) → Nat
  | [] => 0
  | x :: r => uptoBulkEntry x + uptoBulkEntries r
def uptoBulkEntry {H : Type} : Lit × DataW H → Nat
  | (.string bytes, d) => bytes.length + uptoBulk d + 1
  | (_, d) => uptoBulk d + 1
 end
def uptoSmall : (H : Type) → List (DataW H) → Bool := fun _ ds => decide (uptoBulkAll ds ≤ 1048576)
def OpenSpec.upto (s : _root_.Go.ChangeSpec) : _root_.Go.OpenSpec := { _root_.Go.OpenSpec.ofChange s with cond := some uptoSmall }

/-- 'wicketgatelaw12.TaskDoes', WHERE WHAT IT READS IS OF BULK AT MOST 1048576: true; the input reads as it did. -/
def taskDoesUptoRow : OpenClaim := { program := "ytlelhhgggnjndaagreat", sum := "6859340c2ee31d84e9d70caf214471e6995eb4cdae6f1f6d0c966c9f5ebd0da9", func := "wicketgate/wicketgatelaw12.TaskDoes", spec := "taskDoes", inPlace := ["slices.overlaps[int]", "slices.overlaps[wicketgate/api.Proc]"], unfollowed := true, recurses := true, apart := false, narrowed := true }
def TaskDoesUptoSaid : Prop := taskDoesUptoRow.holds Tryz.pinned (OpenSpec.upto taskDoesSpec)

/-- 'wicketgatelaw12.TaskTells', WHERE WHAT IT READS IS OF BULK AT MOST 1048576: true; the input reads as it did. -/
def taskTellsUptoRow : OpenClaim := { program := "ytlelhhgggnjndaagreat", sum := "6859340c2ee31d84e9d70caf214471e6995eb4cdae6f1f6d0c966c9f5ebd0da9", func := "wicketgate/wicketgatelaw12.TaskTells", spec := "taskTells", inPlace := ["slices.overlaps[int]", "slices.overlaps[wicketgate/api.Proc]"], unfollowed := true, recurses := true, apart := false, narrowed := true }
def TaskTellsUptoSaid : Prop := taskTellsUptoRow.holds Tryz.pinned (OpenSpec.upto taskTellsSpec)

end Rows
end Go.Proofs.YtlelhhgggnjndaaGreat
