/-
  Sums of bytes as sums of numbers.
-/
import Derived.Test.YtabccpoolakfiaaAdd
import Derived.Test.YtabccpoolakfiaaMath
namespace Go.Proofs.Ytabccpoolakfiaa
open Go.RowKit

theorem car_num (a b : List Int) (n : Nat) (ha : n ≤ a.length) (hb : n ≤ b.length) :
    ∀ k, k ≤ n → numL (addL a b k) + 256 ^ k * car a b k = numL (a.take k) + numL (b.take k) := by
  intro k
  induction k with
  | zero => intro _; simp [addL, numL, car]
  | succ k ih =>
    intro hk
    have h1 := ih (by omega)
    have h2 := numL_take_succ a k (by omega)
    have h3 := numL_take_succ b k (by omega)
    rw [pow8] at h2 h3
    rw [addL_succ, numL_append, addL_length, h2, h3]
    simp only [numL, car, sumAt]
    generalize numL (addL a b k) = u at *
    generalize numL (a.take k) = v at *
    generalize numL (b.take k) = t at *
    generalize a.getD k 0 = p at *
    generalize b.getD k 0 = q at *
    generalize car a b k = c at *
    have e := congrArg (fun z => (256 : Int) ^ k * z) (Int.emod_add_mul_ediv (c + (p + q)) 256)
    simp only [Int.mul_add] at e
    rw [Int.pow_succ, Int.mul_assoc, Int.mul_comm p, Int.mul_comm q]
    rw [Int.mul_zero, Int.add_zero]
    omega
theorem addL_num (a b : List Int) (n : Nat) (ha : a.length = n) (hb : b.length = n) : numL (addL a b n) = (numL a + numL b) % 256 ^ n := by
  have h := car_num a b n (by omega) (by omega) n (Nat.le_refl _)
  rw [List.take_of_length_le (by omega), List.take_of_length_le (by omega)] at h
  have h1 := numL_bd (addL_byt a b n)
  rw [addL_length] at h1
  rw [← h, Int.add_mul_emod_self_left, Int.emod_eq_of_lt h1.1 h1.2]
theorem numL_low (x : Int) (n : Nat) : numL (low x n) = x % 256 ^ n := by
  induction n with
  | zero => simp [low, numL, Int.emod_one]
  | succ n ih =>
    rw [low_succ, numL_append, ih, low_length]
    simp only [numL]
    unfold byt
    rw [pow8]
    have hp := pow256_pos n
    have h1 := Int.emod_add_mul_ediv x (256 ^ n)
    have h2 := Int.emod_add_mul_ediv (x / 256 ^ n) 256
    have h3 := Int.emod_lt_of_pos x hp
    have h4 := Int.emod_nonneg x (by omega : (256 : Int) ^ n ≠ 0)
    generalize x % 256 ^ n = r at *
    generalize hq : x / 256 ^ n = q at *
    have h5 : x = (r + 256 ^ n * (q % 256)) + 256 ^ (n + 1) * (q / 256) := by
      have e := congrArg (fun z => (256 : Int) ^ n * z) h2
      simp only [Int.mul_add] at e
      rw [Int.pow_succ, Int.mul_assoc]
      omega
    have h6 : 256 ^ n * (q % 256) ≤ 256 ^ n * 255 := Int.mul_le_mul_of_nonneg_left (by omega) (by omega)
    have h7 : 0 ≤ 256 ^ n * (q % 256) := Int.mul_nonneg (by omega) (by omega)
    have h8 : (256 : Int) ^ (n + 1) = 256 ^ n * 256 := Int.pow_succ _ _
    have h9 : (r + 256 ^ n * (q % 256)) % 256 ^ (n + 1) = r + 256 ^ n * (q % 256) := Int.emod_eq_of_lt (by omega) (by omega)
    rw [h5, Int.add_mul_emod_self_left, h9, Int.mul_zero, Int.add_zero]
theorem addL_ext {a a' b b' : List Int} (n : Nat) (ha : ∀ k, a.getD k 0 = a'.getD k 0) (hb : ∀ k, b.getD k 0 = b'.getD k 0) : addL a b n = addL a' b' n := by
  have hc : ∀ k, car a b k = car a' b' k := by
    intro k
    induction k with
    | zero => rfl
    | succ k ih => simp only [car, ih, ha, hb]
  unfold addL
  apply List.map_congr_left
  intro k _
  unfold sumAt
  rw [hc, ha, hb]
theorem addL_comm (a b : List Int) (n : Nat) : addL a b n = addL b a n := by
  have hc : ∀ k, car a b k = car b a k := by
    intro k
    induction k with
    | zero => rfl
    | succ k ih => simp only [car, ih, Int.add_comm (a.getD k 0)]
  unfold addL
  apply List.map_congr_left
  intro k _
  unfold sumAt
  rw [hc, Int.add_comm (a.getD k 0)]
theorem car_nil (a : List Int) (h : Byt a) (k : Nat) : car a [] k = 0 := by
  induction k with
  | zero => rfl
  | succ k ih =>
    have := h.at_ k
    simp only [car, ih, List.getD_nil]
    omega
theorem addL_nil (a : List Int) (h : Byt a) : addL a [] a.length = a := by
  apply List.ext_getElem
  · simp [addL]
  · intro i h1 h2
    have := h.at_ i
    simp only [addL, List.getElem_map, List.getElem_range, sumAt, car_nil a h, List.getD_nil]
    have e : a.getD i 0 = a[i] := by simp [List.getD, h2]
    rw [← e]
    omega
theorem addL_nil' (a : List Int) (h : Byt a) : addL [] a a.length = a := by rw [addL_comm, addL_nil a h]
theorem low_wide (z : Int) (h0 : 0 ≤ z) (h1 : z < 256 ^ 4) (k : Nat) : (low z 4).getD k 0 = (low z 8).getD k 0 := by
  rcases Nat.lt_or_ge k 4 with h | h
  · rw [low_getD _ _ _ h, low_getD _ _ _ (by omega)]
  · have e : (low z 4).getD k 0 = 0 := by simp [List.getD, low_length, h]
    rw [e]
    rcases Nat.lt_or_ge k 8 with h8 | h8
    · rw [low_getD _ _ _ h8]
      unfold byt
      rw [pow8]
      have := pow8_le h
      rw [Int.ediv_eq_zero_of_lt h0 (by omega)]
      rfl
    · simp [List.getD, low_length, h8]
end Go.Proofs.Ytabccpoolakfiaa
