/-
  The machines ahead of each step, each with what that step returns; what a round that takes them keeps: plain lemmas.
-/
import Derived.Test.YtpeofpilfpjjpaaGreatDoorVmNp
import Derived.Test.YtpeofpilfpjjpaaGreatDoorVmQ
import Derived.RangeFuncWrites
namespace Go.Proofs.YtpeofpilfpjjpaaGreatDoor
open Go.RowKit


/-- What a round keeps: what lay below n₀, and the machines, the programs and the data in boxes. -/
def KeptO (o : Obj) : Prop := o.isWalk = true ∨ ∃ cs t fz, o = .cells cs t fz ∧ (t = 149 ∧ cs.size = 19 ∨ t = 25 ∨ t = 64)
def KeepV (n₀ : Nat) (W W' : World) : Prop := Below n₀ W W' ∧ ∀ (k : Nat) (o : Obj), W.heap[k]? = some o → KeptO o → W'.heap[k]? = some o
theorem keepV_refl (n₀ : Nat) (W : World) : KeepV n₀ W W := ⟨Below.refl _ _, fun _ _ h _ => h⟩
theorem keepV_t {n₀ : Nat} {A B C : World} (h : KeepV n₀ A B) (k : KeepV n₀ B C) : KeepV n₀ A C := ⟨h.1.trans k.1, fun j o hj ho => k.2 j o (h.2 j o hj ho) ho⟩
theorem keepV_b {n₀ : Nat} {w : World} (hn : n₀ ≤ w.heap.size) (W : World) (l : Nat) (o o' : Obj) (hl : w.heap.size ≤ l) (h : W.heap[l]? = some o) (a : o.isCells = false) (b : o.isWalk = false) : KeepV n₀ W (W.putObj l o') := by
  refine ⟨belowK_b hn W l o o' hl h a b, fun j o2 hj ho => ?_⟩
  have hne : j ≠ l := by
    rintro rfl
    rw [h] at hj
    cases hj
    rcases ho with ho | ⟨cs, t, fz, rfl, _⟩
    · rw [b] at ho; cases ho
    · cases a
  exact (World.putObj_heap_other hne).trans hj
theorem keepV_below {n₀ : Nat} {W W' : World} (h : Below W.heap.size W W') (hn : n₀ ≤ W.heap.size) : KeepV n₀ W W' := ⟨h.mono hn, fun j _ hj _ => (h.block j (Array.getElem?_eq_some_iff.1 hj).1).trans hj⟩
theorem KeepV.mono {n₀ n₁ : Nat} {w w' : World} (h : KeepV n₁ w w') (hn : n₀ ≤ n₁) : KeepV n₀ w w' := ⟨h.1.mono hn, h.2⟩
theorem KeepV.blk {n₀ : Nat} {w w' : World} (h : KeepV n₀ w w') {g : Nat} {cs : Array Value} {t : TypeId} (k : Blk w g cs t) (ht : t = 149 ∧ cs.size = 19 ∨ t = 25 ∨ t = 64) : Blk w' g cs t := ⟨h.2 g _ k.blk (.inr ⟨cs, t, _, rfl, ht⟩)⟩
/-- A box of another kind, written. -/
theorem keepV_set {n₀ b : Nat} {w : World} {v u : Value} {t : TypeId} (hv : Boxed w b t v) (hn : n₀ ≤ b) (h1 : t ≠ 149) (h2 : t ≠ 25) (h3 : t ≠ 64) : KeepV n₀ w (w.setCell ⟨b, 0, none⟩ u) := by
  refine ⟨(Below.refl _ _).setCell (p := ⟨b, 0, none⟩) hn u, fun j o hj ho => (Below.heap_setCell w ⟨b, 0, none⟩ u j ?_).trans hj⟩
  rintro rfl
  rw [show w.heap[_]? = _ from hv] at hj
  cases hj
  rcases ho with ho | ⟨cs, t', fz, ho, h⟩
  · cases ho
  · injection ho with _ ho
    subst ho
    rcases h with ⟨h, _⟩ | h | h
    · exact h1 h
    · exact h2 h
    · exact h3 h
end Go.Proofs.YtpeofpilfpjjpaaGreatDoor
