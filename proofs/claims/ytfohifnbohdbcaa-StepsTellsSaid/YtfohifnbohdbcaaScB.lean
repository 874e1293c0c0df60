/-
  Rows of structs in memory: what they share.
-/
import Derived.Test.YtfohifnbohdbcaaZo
import Derived.Test.YtfohifnbohdbcaaCmpZ
import Derived.RangeFuncKeeps
import Derived.RangeFuncNested
import Derived.Laws.OwnMore
import Derived.Laws.CopyRow
namespace Go.Proofs.Ytfohifnbohdbcaa
open Go.RowKit Go.Shelf
set_option linter.unusedVariables false
set_option linter.unusedSimpArgs false

theorem range_below3 {w w' : World} {b o B : Nat} {cs : List Value} (h : w.rangeAt b o cs) (hb : Below B w w') (hB : b < B) : w'.rangeAt b o cs := fun j v hv => (hb.cell (p := ⟨b, o + j, none⟩) hB).trans (h j v hv)
theorem r_add (b off j : Nat) : (⟨b, off, none⟩ : Addr).add j = ⟨b, off + j, none⟩ := by unfold Addr.add; by_cases h0 : j = 0 <;> simp [h0]
/-- The numbers rise from behind p on, to t. -/
def riseT (t : Int) : Int → List Int → Bool
  | _, [] => true
  | p, x :: l => decide (p < x) && (decide (x ≤ t) && riseT t x l)
theorem riseT_up {t : Int} : ∀ {l : List Int} {p : Int}, riseT t p l = true → l.Pairwise (· < ·) ∧ (∀ x ∈ l, p < x ∧ x ≤ t)
  | [], p, _ => ⟨List.Pairwise.nil, fun x hx => by cases hx⟩
  | x :: l, p, h => by
    rw [riseT, Bool.and_eq_true, Bool.and_eq_true, decide_eq_true_iff, decide_eq_true_iff] at h
    obtain ⟨h1, h2, h3⟩ := h
    obtain ⟨h4, h5⟩ := riseT_up h3
    refine ⟨List.pairwise_cons.2 ⟨fun y hy => (h5 y hy).1, h4⟩, fun y hy => ?_⟩
    rcases List.mem_cons.1 hy with rfl | hy
    · exact ⟨h1, h2⟩
    · have := h5 y hy
      exact ⟨by omega, this.2⟩
end Go.Proofs.Ytfohifnbohdbcaa
