/-
  A slice of one byte, built.
-/
import Derived.Test.YtndmlbepjcagiaaDoorApp
namespace Go.Proofs.YtndmlbepjcagiaaDoor
open Go.RowKit

theorem built_one (w : World) (z : Int) (h0 : 0 ≤ z) (h1 : z ≤ 255) : Rd (w.alloc (.cells #[.int .u8 z] 5)) (w.heap.size + 1) (some ⟨w.heap.size, 0, none⟩) 1 [z] :=
  (Wh.new w [z] (by intro y hy; simp at hy; subst hy; exact ⟨h0, h1⟩)).rd
end Go.Proofs.YtndmlbepjcagiaaDoor
