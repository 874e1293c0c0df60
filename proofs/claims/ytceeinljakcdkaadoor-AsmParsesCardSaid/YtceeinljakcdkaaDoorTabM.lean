/-
  The table of codes, names and forms: plain lemmas on its rows.
-/
import Derived.Test.YtceeinljakcdkaaDoorKinds
import Derived.Laws.Strings
namespace Go.Proofs.YtceeinljakcdkaaDoor
open Go.RowKit

theorem rowN_eq (s : ByteArray) : rowN s = (List.range 41).find? fun i => (kAt i).2.1 == s.data.toList := by
  unfold rowN kN
  simp only [ByteArray.toList_mk, ByteArray.toList_eq s]
theorem rowC_some {c : Int} {i : Nat} (h : rowC c = some i) : i < 41 ∧ kC i = c := by
  have h1 := List.mem_of_find?_eq_some h
  have h2 := List.find?_some h
  simp at h1 h2
  exact ⟨h1, h2⟩
/-- The table's names lead back to its rows. -/
theorem rowN_kN {i : Nat} (hi : i < 41) : rowN (kN i) = some i := by
  rw [rowN_eq]
  have hall : ((List.range 41).all fun i => ((List.range 41).find? fun j => (kAt j).2.1 == (kAt i).2.1) == some i) = true := by decide
  have := List.all_eq_true.1 hall i (List.mem_range.2 hi)
  simpa [kN] using this
theorem rowN_empty : rowN ⟨#[]⟩ = none := by
  rw [rowN_eq]
  rfl
theorem kF_nonneg {i : Nat} (hi : i < 41) : 0 ≤ kF i := by
  have hall : ((List.range 41).all fun i => decide (0 ≤ kF i)) = true := by decide
  simpa using List.all_eq_true.1 hall i (List.mem_range.2 hi)
end Go.Proofs.YtceeinljakcdkaaDoor
