/-
  The codes that a filter may have, one by one, and their forms.
-/
import Derived.Test.YtpeofpilfpjjpaaGreatDoorHI
import Derived.Test.YtpeofpilfpjjpaaGreatDoorHE
namespace Go.Proofs.YtpeofpilfpjjpaaGreatDoor
open Go.RowKit

theorem row_list {c : Int} (h : rowC c ≠ none) : c ∈ ([0, 1, 2, 3, 4, 5, 6, 7, 12, 20, 21, 22, 28, 29, 32, 36, 37, 44, 45, 52, 53, 60, 61, 68, 69, 76, 77, 84, 92, 96, 97, 100, 108, 116, 124, 128, 129, 132, 135, 164, 172] : List Int) := by
  cases hr : rowC c with
  | none => exact absurd hr h
  | some i =>
    obtain ⟨hi, rfl⟩ := rowC_some hr
    have hall : ((List.range 41).all fun i => ([0, 1, 2, 3, 4, 5, 6, 7, 12, 20, 21, 22, 28, 29, 32, 36, 37, 44, 45, 52, 53, 60, 61, 68, 69, 76, 77, 84, 92, 96, 97, 100, 108, 116, 124, 128, 129, 132, 135, 164, 172] : List Int).contains (kC i)) = true := by decide
    simpa using List.all_eq_true.1 hall i (List.mem_range.2 hi)
theorem form_at_0 : formOf 0 = 1 := by rfl
theorem form_at_1 : formOf 1 = 1 := by rfl
theorem form_at_2 : formOf 2 = 3 := by rfl
theorem form_at_3 : formOf 3 = 3 := by rfl
theorem form_at_4 : formOf 4 = 1 := by rfl
theorem form_at_5 : formOf 5 = 4 := by rfl
theorem form_at_6 : formOf 6 = 1 := by rfl
theorem form_at_7 : formOf 7 = 0 := by rfl
theorem form_at_12 : formOf 12 = 0 := by rfl
theorem form_at_20 : formOf 20 = 1 := by rfl
theorem form_at_21 : formOf 21 = 5 := by rfl
theorem form_at_22 : formOf 22 = 0 := by rfl
theorem form_at_28 : formOf 28 = 0 := by rfl
theorem form_at_29 : formOf 29 = 6 := by rfl
theorem form_at_32 : formOf 32 = 2 := by rfl
theorem form_at_36 : formOf 36 = 1 := by rfl
theorem form_at_37 : formOf 37 = 5 := by rfl
theorem form_at_44 : formOf 44 = 0 := by rfl
theorem form_at_45 : formOf 45 = 6 := by rfl
theorem form_at_52 : formOf 52 = 1 := by rfl
theorem form_at_53 : formOf 53 = 5 := by rfl
theorem form_at_60 : formOf 60 = 0 := by rfl
theorem form_at_61 : formOf 61 = 6 := by rfl
theorem form_at_68 : formOf 68 = 1 := by rfl
theorem form_at_69 : formOf 69 = 5 := by rfl
theorem form_at_76 : formOf 76 = 0 := by rfl
theorem form_at_77 : formOf 77 = 6 := by rfl
theorem form_at_84 : formOf 84 = 1 := by rfl
theorem form_at_92 : formOf 92 = 0 := by rfl
theorem form_at_96 : formOf 96 = 3 := by rfl
theorem form_at_97 : formOf 97 = 3 := by rfl
theorem form_at_100 : formOf 100 = 1 := by rfl
theorem form_at_108 : formOf 108 = 0 := by rfl
theorem form_at_116 : formOf 116 = 1 := by rfl
theorem form_at_124 : formOf 124 = 0 := by rfl
theorem form_at_128 : formOf 128 = 0 := by rfl
theorem form_at_129 : formOf 129 = 0 := by rfl
theorem form_at_132 : formOf 132 = 0 := by rfl
theorem form_at_135 : formOf 135 = 0 := by rfl
theorem form_at_164 : formOf 164 = 1 := by rfl
theorem form_at_172 : formOf 172 = 0 := by rfl
end Go.Proofs.YtpeofpilfpjjpaaGreatDoor
