/-
  A statement that draws its order, walked once in the order of the text, where each operation yields one value in every world of a class and leaves a world of the class.
-/
import Derived.Test.YtfohifnbohdbcaaBase
import Derived.BigQuiet
namespace Go.Proofs.Ytfohifnbohdbcaa
open Go.RowKit

/-- A world of the class. -/
structure Sig (S : World → Prop) where
  V : World
  h : S V

theorem region_class {P : Program} {S : World → Prop} {id : Nat} {Q : Exit → Act → World → Prop} {a : Act} {w : World} {l : List Oper} (hm : P.follows .mixedOrders = true) (hB : Region.lexB .any l.toArray = true)
    (hS : S w.drew) (h : wpQuiet P l.toArray (fun w' => ∃ s : Sig S, w' = s.V) (fun a' => ∀ w', (∃ s : Sig S, w' = s.V) → Q .normal a' w') l a) : (Code.region id l.toArray true).wp P Q a w :=
  wp_region_quiet (C := fun w' => ∃ s : Sig S, w' = s.V) hm hB ⟨⟨_, hS⟩, rfl⟩ (by simpa using h)

theorem class_call {P : Program} {S : World → Prop} {f : FuncId} {args : Array Value} {v : Value} (s : Sig S) (h : ∀ V, S V → Calls P f args V fun e w' => e = .returned v ∧ S w') :
    Calls P f args s.V fun e w' => e = .returned v ∧ ∃ s' : Sig S, w' = s'.V := (h s.V s.h).mono fun _ w' ⟨he, hs⟩ => ⟨he, ⟨w', hs⟩, rfl⟩

theorem class_end {C : World → Prop} {P : Program} {ops : Array Oper} {Q : Act → Prop} {a : Act} (h : Q a) : wpQuiet P ops C Q [] a := wpQuiet_nil h
end Go.Proofs.Ytfohifnbohdbcaa
