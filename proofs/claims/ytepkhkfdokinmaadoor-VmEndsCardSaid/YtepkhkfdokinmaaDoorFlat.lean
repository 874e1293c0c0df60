/-
  Rows of equally long pieces: plain lemmas.
-/
import Derived.Test.YtepkhkfdokinmaaDoorBase
namespace Go.Proofs.YtepkhkfdokinmaaDoor
open Go.RowKit

theorem flatN_len (n : Nat) (g : Nat → List Int) (hg : ∀ k, (g k).length = n) (m : Nat) : ((List.range m).flatMap g).length = m * n := by
  induction m with
  | zero => simp
  | succ m ih => rw [List.range_succ, List.flatMap_append, List.length_append, ih]; simp [hg, Nat.succ_mul]
theorem flatN_piece (n : Nat) (g : Nat → List Int) (hg : ∀ k, (g k).length = n) (m x : Nat) (hx : x < m) : (((List.range m).flatMap g).drop (x * n)).take n = g x := by
  induction m with
  | zero => omega
  | succ m ih =>
    have hl := flatN_len n g hg m
    have hmul : x + 1 ≤ m → x * n + n ≤ m * n := fun h => by have := Nat.mul_le_mul_right n h; rw [Nat.succ_mul] at this; exact this
    rw [List.range_succ, List.flatMap_append]
    rcases Nat.lt_or_ge x m with h | h
    · have := hmul (by omega)
      rw [List.drop_append_of_le_length (by omega), List.take_append_of_le_length (by rw [List.length_drop]; omega)]
      exact ih h
    · obtain rfl : x = m := by omega
      rw [List.drop_append, hl, Nat.sub_self, List.drop_eq_nil_of_le (by omega)]
      simp [List.take_of_length_le (Nat.le_of_eq (hg x))]
theorem piecesN_all (n : Nat) (l : List Int) (m : Nat) (h : m * n ≤ l.length) : ((List.range m).flatMap fun k => (l.drop (k * n)).take n) = l.take (m * n) := by
  induction m with
  | zero => simp
  | succ m ih =>
    rw [Nat.succ_mul] at h
    rw [List.range_succ, List.flatMap_append, ih (by omega), Nat.succ_mul, List.take_add]
    simp
end Go.Proofs.YtepkhkfdokinmaaDoor
