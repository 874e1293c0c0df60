/-
  A block of one cell; nothing but one block, and what is new, has turned.
-/
import Derived.Test.YtfohifnbohdbcaaBase
import Derived.RegionTactic
import Derived.BigRegion
namespace Go.Proofs.Ytfohifnbohdbcaa
open Go.RowKit

/-- A block of one cell that may be written. -/
structure One (w : World) (g : Nat) (v : Value) (t : TypeId) : Prop where
  blk : w.heap[g]? = some (.cells #[v] t (0, 0))
theorem One.lt {w : World} {g : Nat} {v : Value} {t : TypeId} (h : One w g v t) : g < w.heap.size := by
  rcases Nat.lt_or_ge g w.heap.size with hlt | hge
  · exact hlt
  · have := h.blk; rw [Array.getElem?_eq_none hge] at this; cases this
theorem One.cell {w : World} {g : Nat} {v : Value} {t : TypeId} (h : One w g v t) : w.cell? ⟨g, 0, none⟩ = some v := by simp [World.cell?, h.blk]
theorem One.free {w : World} {g : Nat} {v : Value} {t : TypeId} (h : One w g v t) : w.frozen? ⟨g, 0, none⟩ = false := by simp [World.frozen?, h.blk]
theorem One.set_ {w : World} {g : Nat} {v : Value} {t : TypeId} (h : One w g v t) (u : Value) : One (w.setCell ⟨g, 0, none⟩ u) g u t :=
  ⟨by simp [World.setCell, Array.getElem?_modify, h.blk]⟩
theorem One.far {w : World} {g : Nat} {v : Value} {t : TypeId} (h : One w g v t) {p : Addr} (hp : g ≠ p.block) (u : Value) : One (w.setCell p u) g v t :=
  ⟨(Below.heap_setCell w p u g hp).trans h.blk⟩
theorem One.drew {w : World} {g : Nat} {v : Value} {t : TypeId} (h : One w g v t) : One w.drew g v t := ⟨h.blk⟩

/-- Nothing but block g, and what is new, has turned. -/
structure But (g : Nat) (w w' : World) : Prop where
  os : w'.os = w.os
  tape : w'.tape = w.tape
  output : w'.output = w.output
  size : w.heap.size ≤ w'.heap.size
  block : ∀ k, k < w.heap.size → k ≠ g → w'.heap[k]? = w.heap[k]?
section
variable {g : Nat} {w w' w'' : World}
theorem But.refl (g : Nat) (w : World) : But g w w := ⟨rfl, rfl, rfl, Nat.le_refl _, fun _ _ _ => rfl⟩
theorem But.trans (h : But g w w') (k : But g w' w'') : But g w w'' :=
  ⟨k.os.trans h.os, k.tape.trans h.tape, k.output.trans h.output, Nat.le_trans h.size k.size, fun i hi hn => (k.block i (Nat.lt_of_lt_of_le hi h.size) hn).trans (h.block i hi hn)⟩
theorem But.drew (h : But g w w') : But g w w'.drew := ⟨h.os, h.tape, h.output, h.size, h.block⟩
theorem But.alloc (h : But g w w') (o : Obj) : But g w (w'.alloc o) :=
  h.trans ⟨rfl, rfl, rfl, by simp, fun k hk _ => Below.heap_alloc _ _ _ hk⟩
theorem But.setCell (h : But g w w') {p : Addr} (hp : p.block = g ∨ w.heap.size ≤ p.block) (u : Value) : But g w (w'.setCell p u) := by
  refine ⟨h.os, h.tape, h.output, by simpa [World.setCell] using h.size, fun k hk hn => ?_⟩
  rw [Below.heap_setCell _ _ _ _ (by rcases hp with rfl | hp <;> omega)]
  exact h.block k hk hn
theorem But.below (h : But g w w') (B : Nat) (hB : B ≤ g) (hs : B ≤ w.heap.size) : Below B w w' :=
  ⟨h.os, h.tape, h.output, h.size, fun k hk => h.block k (by omega) (by omega)⟩
theorem But.of_below (h : Below w.heap.size w w') (g : Nat) : But g w w' := ⟨h.os, h.tape, h.output, h.size, fun k hk _ => h.block k hk⟩
theorem But.rd {B : Nat} {A : Option Addr} {n : Nat} {l : List Int} (h : But g w w') (hr : Rd w B A n l) (hB : B ≤ g) (hs : B ≤ w.heap.size) : Rd w' B A n l := hr.below (h.below B hB hs)
theorem But.wh {g' : Nat} {l : List Int} (h : But g w w') (hw : Wh w g' l) (hn : g' ≠ g) : Wh w' g' l := ⟨hw.byt, (h.block g' hw.lt hn).trans hw.blk⟩
theorem But.one {g' : Nat} {v : Value} {t : TypeId} (h : But g w w') (hw : One w g' v t) (hn : g' ≠ g) : One w' g' v t := ⟨(h.block g' hw.lt hn).trans hw.blk⟩
end
end Go.Proofs.Ytfohifnbohdbcaa
