/-
  No cell of these rows narrows 'for every input' (looked for: loops, veiled, ifaces, maps, wideKeys, modest, calm, conditions, laid).
  DERIVED. THE GIVEN ROWS OF THIS SEAT. 5 by the template 'for every input the law returns true; each argument reads behind the call as it read before'; 0 by the template 'total and deterministic' (their statements: YtolalbpjaebfdaaTotals.lean).
  GIVEN WITH THE SEED: the statements are not yours to turn. If you find one false, say at which input.
  Laid BY PROGRAM, IN A SANDBOX (cutbox-rows.mjs): the forced cells as the released guide's own fill.sh prints them over the translation 3653a711c4a348e7… (all of the seat's roots in one cut). By AI agents, Wed Nov 11 2026. No macro, syntax, notation, axiom, sorry.
-/
import Derived.Test.YtolalbpjaebfdaaChecked
import GoSem.Claim
import GoSem.ClaimJoined
import GoSem.ClaimMapViews
import Derived.JoinedTies
import Derived.KernelRfl
namespace Go.Proofs.Ytolalbpjaebfdaa
/- THE CELL 'sum', in the pinned program and in every row, IS THE sha256 OF THE DUMP (.gsa) THAT YtolalbpjaebfdaaProg.lean LOADS. Nothing in Lean hashes anything: it is a label: what it is worth is what the hold of that sum in a sandbox is worth. -/
noncomputable def Try.pinned : Pinned := { name := "ytolalbpjaebfdaa", sum := "3653a711c4a348e773fa923279118a990bc3cb7871a4a7d4b6b04a4c1a4bc44e", checked := Try.checked }
namespace Rows
def none {H : Type} : Left H := { results := [], args := [] }

/-- 'wicketgatelaw13.StepsThreads': WHATEVER THE INPUT: true; the input reads as it did. -/
def stepsThreadsSpec : ChangeSpec := { name := "stepsThreads", fn := fun _ => fun
  | [d1, d2] => { results := [.lit (.bool true)], args := [d1, d2] }
  | _ => none }
def stepsThreadsRow : OpenClaim := { program := "ytolalbpjaebfdaa", sum := "3653a711c4a348e773fa923279118a990bc3cb7871a4a7d4b6b04a4c1a4bc44e", func := "wicketgate/wicketgatelaw13.StepsThreads", spec := "stepsThreads", inPlace := ["slices.overlaps[wicketgate/api.Run]", "slices.overlaps[wicketgate/api.Lock]"], unfollowed := true, recurses := true, apart := false }
def StepsThreadsSaid : Prop := stepsThreadsRow.holds Try.pinned (OpenSpec.ofChange stepsThreadsSpec)

/-- ITS FALSE NEIGHBOUR: 'it returns false'. Refute it at one input. -/
def stepsThreadsWrong : ChangeSpec := { name := "stepsThreads", fn := fun _ => fun
  | [d1, d2] => { results := [.lit (.bool false)], args := [d1, d2] }
  | _ => none }
def StepsThreadsWrongFalsely : Prop := stepsThreadsRow.holds Try.pinned (OpenSpec.ofChange stepsThreadsWrong)

/-- 'wicketgatelaw13.StepsLocks': WHATEVER THE INPUT: true; the input reads as it did. -/
def stepsLocksSpec : ChangeSpec := { name := "stepsLocks", fn := fun _ => fun
  | [d1, d2, d3] => { results := [.lit (.bool true)], args := [d1, d2, d3] }
  | _ => none }
def stepsLocksRow : OpenClaim := { program := "ytolalbpjaebfdaa", sum := "3653a711c4a348e773fa923279118a990bc3cb7871a4a7d4b6b04a4c1a4bc44e", func := "wicketgate/wicketgatelaw13.StepsLocks", spec := "stepsLocks", inPlace := ["slices.overlaps[wicketgate/api.Run]", "slices.overlaps[wicketgate/api.Lock]"], unfollowed := true, recurses := true, apart := false }
def StepsLocksSaid : Prop := stepsLocksRow.holds Try.pinned (OpenSpec.ofChange stepsLocksSpec)

/-- ITS FALSE NEIGHBOUR: 'it returns false'. Refute it at one input. -/
def stepsLocksWrong : ChangeSpec := { name := "stepsLocks", fn := fun _ => fun
  | [d1, d2, d3] => { results := [.lit (.bool false)], args := [d1, d2, d3] }
  | _ => none }
def StepsLocksWrongFalsely : Prop := stepsLocksRow.holds Try.pinned (OpenSpec.ofChange stepsLocksWrong)

/-- 'wicketgatelaw13.StepsTells': WHATEVER THE INPUT: true; the input reads as it did. -/
def stepsTellsSpec : ChangeSpec := { name := "stepsTells", fn := fun _ => fun
  | [d1, d2, d3] => { results := [.lit (.bool true)], args := [d1, d2, d3] }
  | _ => none }
def stepsTellsRow : OpenClaim := { program := "ytolalbpjaebfdaa", sum := "3653a711c4a348e773fa923279118a990bc3cb7871a4a7d4b6b04a4c1a4bc44e", func := "wicketgate/wicketgatelaw13.StepsTells", spec := "stepsTells", inPlace := ["slices.overlaps[wicketgate/api.Run]", "slices.overlaps[wicketgate/api.Lock]"], unfollowed := true, recurses := true, apart := false }
def StepsTellsSaid : Prop := stepsTellsRow.holds Try.pinned (OpenSpec.ofChange stepsTellsSpec)

/-- ITS FALSE NEIGHBOUR: 'it returns false'. Refute it at one input. -/
def stepsTellsWrong : ChangeSpec := { name := "stepsTells", fn := fun _ => fun
  | [d1, d2, d3] => { results := [.lit (.bool false)], args := [d1, d2, d3] }
  | _ => none }
def StepsTellsWrongFalsely : Prop := stepsTellsRow.holds Try.pinned (OpenSpec.ofChange stepsTellsWrong)

/-- 'wicketgatelaw13.StepsTurns': WHATEVER THE INPUT: true; the input reads as it did. -/
def stepsTurnsSpec : ChangeSpec := { name := "stepsTurns", fn := fun _ => fun
  | [d1, d2] => { results := [.lit (.bool true)], args := [d1, d2] }
  | _ => none }
def stepsTurnsRow : OpenClaim := { program := "ytolalbpjaebfdaa", sum := "3653a711c4a348e773fa923279118a990bc3cb7871a4a7d4b6b04a4c1a4bc44e", func := "wicketgate/wicketgatelaw13.StepsTurns", spec := "stepsTurns", inPlace := ["slices.overlaps[wicketgate/api.Run]", "slices.overlaps[wicketgate/api.Lock]"], unfollowed := true, recurses := true, apart := false }
def StepsTurnsSaid : Prop := stepsTurnsRow.holds Try.pinned (OpenSpec.ofChange stepsTurnsSpec)

/-- ITS FALSE NEIGHBOUR: 'it returns false'. Refute it at one input. -/
def stepsTurnsWrong : ChangeSpec := { name := "stepsTurns", fn := fun _ => fun
  | [d1, d2] => { results := [.lit (.bool false)], args := [d1, d2] }
  | _ => none }
def StepsTurnsWrongFalsely : Prop := stepsTurnsRow.holds Try.pinned (OpenSpec.ofChange stepsTurnsWrong)

/-- 'wicketgatelaw13.StepsFree': WHATEVER THE INPUT: true; the input reads as it did. -/
def stepsFreeSpec : ChangeSpec := { name := "stepsFree", fn := fun _ => fun
  | [d1, d2] => { results := [.lit (.bool true)], args := [d1, d2] }
  | _ => none }
def stepsFreeRow : OpenClaim := { program := "ytolalbpjaebfdaa", sum := "3653a711c4a348e773fa923279118a990bc3cb7871a4a7d4b6b04a4c1a4bc44e", func := "wicketgate/wicketgatelaw13.StepsFree", spec := "stepsFree", inPlace := ["slices.overlaps[wicketgate/api.Run]", "slices.overlaps[wicketgate/api.Lock]"], unfollowed := true, recurses := true, apart := false }
def StepsFreeSaid : Prop := stepsFreeRow.holds Try.pinned (OpenSpec.ofChange stepsFreeSpec)

/-- ITS FALSE NEIGHBOUR: 'it returns false'. Refute it at one input. -/
def stepsFreeWrong : ChangeSpec := { name := "stepsFree", fn := fun _ => fun
  | [d1, d2] => { results := [.lit (.bool false)], args := [d1, d2] }
  | _ => none }
def StepsFreeWrongFalsely : Prop := stepsFreeRow.holds Try.pinned (OpenSpec.ofChange stepsFreeWrong)

/- THE SECOND FORM. 'bulk': how many values and letters a reading holds, each counted each time it is reached (what is shared counts as often as it is met; a slice's spare places count too). A statement '..UptoSaid' is the law's where the arguments, and the package variables that the reading takes, are together of bulk at most 1048576: NARROWER than '..Said'. Prove '..Said' where nothing that the law and all that it calls make is longer than what came in: it says more and counts as full. Else prove '..UptoSaid'. A law counts once. -/
mutual
def uptoBulk {H : Type} : DataW H → Nat
  | .lit (.string bytes) => bytes.length + 1
  | .lit _ => 1
  | .nil => 1
  | .ptr d => uptoBulk d + 1
  | .slice elems spare => uptoBulkAll elems + uptoBulkAll spare + 1
  | .agg parts => uptoBulkAll parts + 1
  | .iface _ d => uptoBulk d + 1
  | .map entries => uptoBulkEntries entries + 1
  | .held _ => 1
def uptoBulkAll {H : Type} : List (DataW H) → Nat
  | [] => 0
  | d :: r => uptoBulk d + uptoBulkAll r
def uptoBulkEntries {H : Type} : List (Lit × DataW H) → Nat
  | [] => 0
  | x :: r => uptoBulkEntry x + uptoBulkEntries r
def uptoBulkEntry {H : Type} : Lit × DataW H → Nat
  | (.string bytes, d) => bytes.length + uptoBulk d + 1
  | (_, d) => uptoBulk d + 1
 end
def uptoSmall : (H : Type) → List (DataW H) → Bool := fun _ ds => decide (uptoBulkAll ds ≤ 1048576)
def OpenSpec.upto (s : _root_.Go.ChangeSpec) : _root_.Go.OpenSpec := { _root_.Go.OpenSpec.ofChange s with cond := some uptoSmall }

/-- 'wicketgatelaw13.StepsThreads', WHERE WHAT IT READS IS OF BULK AT MOST 1048576: true; the input reads as it did. -/
def stepsThreadsUptoRow : OpenClaim := { program := "ytolalbpjaebfdaa", sum := "3653a711c4a348e773fa923279118a990bc3cb7871a4a7d4b6b04a4c1a4bc44e", func := "wicketgate/wicketgatelaw13.StepsThreads", spec := "stepsThreads", inPlace := ["slices.overlaps[wicketgate/api.Run]", "slices.overlaps[wicketgate/api.Lock]"], unfollowed := true, recurses := true, apart := false, narrowed := true }
def StepsThreadsUptoSaid : Prop := stepsThreadsUptoRow.holds Try.pinned (OpenSpec.upto stepsThreadsSpec)

/-- 'wicketgatelaw13.StepsLocks', WHERE WHAT IT READS IS OF BULK AT MOST 1048576: true; the input reads as it did. -/
def stepsLocksUptoRow : OpenClaim := { program := "ytolalbpjaebfdaa", sum := "3653a711c4a348e773fa923279118a990bc3cb7871a4a7d4b6b04a4c1a4bc44e", func := "wicketgate/wicketgatelaw13.StepsLocks", spec := "stepsLocks", inPlace := ["slices.overlaps[wicketgate/api.Run]", "slices.overlaps[wicketgate/api.Lock]"], unfollowed := true, recurses := true, apart := false, narrowed := true }
def StepsLocksUptoSaid : Prop := stepsLocksUptoRow.holds Try.pinned (OpenSpec.upto stepsLocksSpec)

/-- 'wicketgatelaw13.StepsTells', WHERE WHAT IT READS IS OF BULK AT MOST 1048576: true; the input reads as it did. -/
def stepsTellsUptoRow : OpenClaim := { program := "ytolalbpjaebfdaa", sum := "3653a711c4a348e773fa923279118a990bc3cb7871a4a7d4b6b04a4c1a4bc44e", func := "wicketgate/wicketgatelaw13.StepsTells", spec := "stepsTells", inPlace := ["slices.overlaps[wicketgate/api.Run]", "slices.overlaps[wicketgate/api.Lock]"], unfollowed := true, recurses := true, apart := false, narrowed := true }
def StepsTellsUptoSaid : Prop := stepsTellsUptoRow.holds Try.pinned (OpenSpec.upto stepsTellsSpec)

/-- 'wicketgatelaw13.StepsTurns', WHERE WHAT IT READS IS OF BULK AT MOST 1048576: true; the input reads as it did. -/
def stepsTurnsUptoRow : OpenClaim := { program := "ytolalbpjaebfdaa", sum := "3653a711c4a348e773fa923279118a990bc3cb7871a4a7d4b6b04a4c1a4bc44e", func := "wicketgate/wicketgatelaw13.StepsTurns", spec := "stepsTurns", inPlace := ["slices.overlaps[wicketgate/api.Run]", "slices.overlaps[wicketgate/api.Lock]"], unfollowed := true, recurses := true, apart := false, narrowed := true }
def StepsTurnsUptoSaid : Prop := stepsTurnsUptoRow.holds Try.pinned (OpenSpec.upto stepsTurnsSpec)

/-- 'wicketgatelaw13.StepsFree', WHERE WHAT IT READS IS OF BULK AT MOST 1048576: true; the input reads as it did. -/
def stepsFreeUptoRow : OpenClaim := { program := "ytolalbpjaebfdaa", sum := "3653a711c4a348e773fa923279118a990bc3cb7871a4a7d4b6b04a4c1a4bc44e", func := "wicketgate/wicketgatelaw13.StepsFree", spec := "stepsFree", inPlace := ["slices.overlaps[wicketgate/api.Run]", "slices.overlaps[wicketgate/api.Lock]"], unfollowed := true, recurses := true, apart := false, narrowed := true }
def StepsFreeUptoSaid : Prop := stepsFreeUptoRow.holds Try.pinned (OpenSpec.upto stepsFreeSpec)

end Rows
end Go.Proofs.Ytolalbpjaebfdaa
