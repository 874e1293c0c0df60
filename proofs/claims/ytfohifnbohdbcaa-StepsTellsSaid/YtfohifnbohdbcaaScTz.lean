/-
  StepsTells, whole.
-/
import Derived.Test.YtfohifnbohdbcaaScTl
import Derived.Test.YtfohifnbohdbcaaScRg
import Derived.Test.YtfohifnbohdbcaaScEq
import Derived.Test.YtfohifnbohdbcaaScOp
namespace Go.Proofs.Ytfohifnbohdbcaa
open Go.RowKit Go.Shelf
theorem tells13_full (A : Option Addr) (m c : Nat) (R : List Rn) (A2 : Option Addr) (m2 c2 : Nat) (L : List Kw) (B : Option Addr) (n d : Nat) (R2 : List Rn) (B2 : Option Addr) (n2 d2 : Nat) (L2 : List Kw) (q0 q1 : Int) (w : World)
    (h : ScW w w.heap.size A m c R A2 m2 c2 L) (h2 : ScW w w.heap.size B n d R2 B2 n2 d2 L2) (hq : (Lit.int .i64 q0).wf = true) :
    Calls Try.prog 5 #[scV A m c A2 m2 c2, scV B n d B2 n2 d2, .agg #[.int .i64 q0, .int .i64 q1]] w fun e w' => e = .returned (.bool true) ∧ Below w.heap.size w w' :=
  tells13_law A m c R A2 m2 c2 L B n d R2 B2 n2 d2 L2 q0 q1 w h h2 hq fun V hV => by
    have h3 := right_sc A m c R A2 m2 c2 L V hV
    rw [right_eq] at h3
    exact h3
end Go.Proofs.Ytfohifnbohdbcaa
