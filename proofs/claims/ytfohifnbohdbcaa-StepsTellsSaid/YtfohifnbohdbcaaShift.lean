/-
  Cells put into a row: in place, and in a new row; a list with one more at a place.
-/
import Derived.Test.YtfohifnbohdbcaaOwnH
namespace Go.Proofs.Ytfohifnbohdbcaa
set_option linter.unusedVariables false
set_option linter.unusedSimpArgs false

/-- What the cells are when a filter is put in in place. -/
theorem shift_cells {cur F X : List Value} {a n t : Nat} (hF : F.length = n) (hc : cur.take n = F) (ht : X.length = t) (ha : a ≤ n) (hl : n + t ≤ cur.length) :
    let c1 := cur.take (a + t) ++ F.drop a ++ cur.drop (a + t + (F.drop a).length)
    (c1.take a ++ X ++ c1.drop (a + X.length)).take (n + t) = F.take a ++ X ++ F.drop a ∧ (c1.take a ++ X ++ c1.drop (a + X.length)).length = cur.length := by
  intro c1
  have hl1 : (F.drop a).length = n - a := by rw [List.length_drop, hF]
  have e0 : c1.length = cur.length := by
    simp only [c1, List.length_append, List.length_take, List.length_drop, hF]; omega
  have e1 : c1.take a = F.take a := by
    simp only [c1]
    rw [List.append_assoc, List.take_append_of_le_length (by rw [List.length_take]; omega), List.take_take, ← hc, List.take_take]
    congr 1; omega
  have e2 : c1.drop (a + X.length) = F.drop a ++ cur.drop (a + t + (F.drop a).length) := by
    simp only [c1]
    rw [List.append_assoc, ht, List.drop_append_of_le_length (by rw [List.length_take]; omega), List.drop_of_length_le (by rw [List.length_take]; omega), List.nil_append]
  refine ⟨?_, ?_⟩
  · rw [e1, e2, ← List.append_assoc, List.take_append_of_le_length (by simp only [List.length_append, List.length_take, hl1, hF, ht]; omega), List.take_of_length_le (by simp only [List.length_append, List.length_take, hl1, hF, ht]; omega)]
  · simp only [List.length_append, List.length_take, List.length_drop, e0, ht]; omega
/-- What they are in a new row. -/
theorem grow_cells {F X Z : List Value} {a n t : Nat} (hF : F.length = n) (ht : X.length = t) (ha : a ≤ n) (hl : n + t ≤ a + Z.length) :
    let c0 := F.take a ++ Z
    let c1 := c0.take a ++ X ++ c0.drop (a + X.length)
    (c1.take (a + t) ++ F.drop a ++ c1.drop (a + t + (F.drop a).length)).take (n + t) = F.take a ++ X ++ F.drop a ∧ (c1.take (a + t) ++ F.drop a ++ c1.drop (a + t + (F.drop a).length)).length = a + Z.length := by
  intro c0 c1
  have hl1 : (F.drop a).length = n - a := by rw [List.length_drop, hF]
  have hl2 : (F.take a).length = a := by rw [List.length_take, hF]; omega
  have e0 : c0.length = a + Z.length := by simp only [c0, List.length_append, hl2]
  have e1 : c0.take a = F.take a := by
    simp only [c0]
    rw [List.take_append_of_le_length (by omega), List.take_of_length_le (by omega)]
  have e3 : c1.length = a + Z.length := by simp only [c1, List.length_append, List.length_take, List.length_drop, e0, ht]; omega
  have e2 : c1.take (a + t) = F.take a ++ X := by
    simp only [c1, e1]
    rw [List.take_append_of_le_length (by rw [List.length_append, hl2, ht]; omega), List.take_of_length_le (by rw [List.length_append, hl2, ht]; omega)]
  refine ⟨?_, ?_⟩
  · rw [e2, List.take_append_of_le_length (by simp only [List.length_append, hl1, hl2, ht]; omega), List.take_of_length_le (by simp only [List.length_append, hl1, hl2, ht]; omega)]
  · simp only [List.length_append, List.length_take, List.length_drop, e3, hl1]; omega
/-- One more at a place. -/
def insL {α : Type} (k : Nat) (x : α) (L : List α) : List α := L.take k ++ x :: L.drop k
theorem insL_len {α : Type} {k : Nat} {x : α} {L : List α} : (insL k x L).length = L.length + 1 := by
  unfold insL
  rw [List.length_append, List.length_cons, List.length_take, List.length_drop]; omega
theorem insL_mem {α : Type} {k : Nat} {x y : α} {L : List α} (h : y ∈ insL k x L) : y = x ∨ y ∈ L := by
  unfold insL at h
  rcases List.mem_append.1 h with h | h
  · exact .inr (List.mem_of_mem_take h)
  · rcases List.mem_cons.1 h with h | h
    · exact .inl h
    · exact .inr (List.mem_of_mem_drop h)
theorem insL_end {α : Type} {x : α} {L : List α} : insL L.length x L = L ++ [x] := by simp [insL]
end Go.Proofs.Ytfohifnbohdbcaa
