/-
  Plain numbers: the number of bytes, the bytes of a number, a byte laid above a number by 'or'.
-/
import Derived.Test.YtepkhkfdokinmaaDoorBase
import Derived.Laws.BitsAllLaws
namespace Go.Proofs.YtepkhkfdokinmaaDoor
open Go.RowKit

/-- The number of bytes, the least one first. -/
def numL : List Int → Int
  | [] => 0
  | b :: l => b + 256 * numL l

theorem pow8 (k : Nat) : (2 : Int) ^ (8 * k) = 256 ^ k := by rw [Int.pow_mul]; rfl
theorem pow256_pos (k : Nat) : (0 : Int) < 256 ^ k := Int.pow_pos (by decide)
theorem numL_append (a b : List Int) : numL (a ++ b) = numL a + 256 ^ a.length * numL b := by
  induction a with
  | nil => simp [numL]
  | cons x a ih =>
    have e : (256 : Int) ^ (x :: a).length = 256 * 256 ^ a.length := by rw [List.length_cons, Int.pow_succ, Int.mul_comm]
    rw [e]
    simp only [List.cons_append, numL, ih]
    rw [Int.mul_add, Int.mul_assoc]
    omega
theorem numL_bd {l : List Int} (h : Byt l) : 0 ≤ numL l ∧ numL l < 256 ^ l.length := by
  induction l with
  | nil => simp [numL]
  | cons x l ih =>
    have hx := h x (by simp)
    have h1 := ih (fun z hz => h z (by simp [hz]))
    have e : (256 : Int) ^ (x :: l).length = 256 * 256 ^ l.length := by rw [List.length_cons, Int.pow_succ, Int.mul_comm]
    rw [e]
    simp only [numL]
    omega
theorem take_succ (l : List Int) (k : Nat) (h : k < l.length) : l.take (k + 1) = l.take k ++ [l.getD k 0] := by
  rw [List.take_succ_eq_append_getElem h]
  simp [List.getD, h]
theorem numL_take_succ (l : List Int) (k : Nat) (h : k < l.length) : numL (l.take (k + 1)) = numL (l.take k) + l.getD k 0 * 2 ^ (8 * k) := by
  rw [take_succ l k h, numL_append, pow8]
  simp only [numL, List.length_take]
  rw [Nat.min_eq_left (by omega), Int.mul_zero, Int.add_zero, Int.mul_comm]
theorem pow8_le {k m : Nat} (h : k ≤ m) : (256 : Int) ^ k ≤ 256 ^ m := by
  obtain ⟨d, rfl⟩ := Nat.le.dest h
  rw [Int.pow_add]
  have h1 := pow256_pos k
  have h2 := pow256_pos d
  have h3 := Int.mul_nonneg (show (0 : Int) ≤ 256 ^ k by omega) (show (0 : Int) ≤ 256 ^ d - 1 by omega)
  rw [Int.mul_sub, Int.mul_one] at h3
  omega

theorem or_byte (a b : Int) (k : Nat) (hk : k ≤ 7) (ha0 : 0 ≤ a) (ha : a < 256 ^ k) (hb0 : 0 ≤ b) (hb : b ≤ 255) :
    bits .or .u64 a (IntKind.u64.wrap (IntKind.u64.wrap b * 2 ^ (8 * k))) = a + b * 2 ^ (8 * k) := by
  have h7 : (256 : Int) ^ k ≤ 256 ^ 7 := pow8_le hk
  have h7' : (256 : Int) ^ 7 = 72057594037927936 := by decide
  have hp := pow256_pos k
  have hm : b * 256 ^ k ≤ 255 * 256 ^ 7 := Int.mul_le_mul hb h7 (by omega) (by omega)
  have hm0 : 0 ≤ b * 256 ^ k := Int.mul_nonneg hb0 (by omega)
  rw [pow8]
  have e1 : IntKind.u64.wrap b = b := by rw [IntKind.wrap_u64]; omega
  have e2 : IntKind.u64.wrap (b * 256 ^ k) = b * 256 ^ k := by rw [IntKind.wrap_u64]; omega
  rw [e1, e2, u64_or a _ ha0 (by omega) hm0 (by omega)]
  obtain ⟨A, rfl⟩ := Int.eq_ofNat_of_zero_le ha0
  obtain ⟨C, rfl⟩ := Int.eq_ofNat_of_zero_le hb0
  have hA : A < 2 ^ (8 * k) := by
    have : ((A : Int)) < ((2 ^ (8 * k) : Nat) : Int) := by
      rw [Int.natCast_pow]; rw [← pow8] at ha; exact ha
    omega
  have e3 : ((C : Int) * 256 ^ k).toNat = 2 ^ (8 * k) * C := by
    have : ((C : Int) * 256 ^ k) = ((2 ^ (8 * k) * C : Nat) : Int) := by
      rw [Int.natCast_mul, Int.natCast_pow, Int.mul_comm, ← pow8]; rfl
    rw [this, Int.toNat_natCast]
  have e4 := Nat.two_pow_add_eq_or_of_lt hA C
  rw [e3, Int.toNat_natCast, Nat.or_comm, ← e4, Int.natCast_add, Int.natCast_mul, Int.natCast_pow, ← pow8, Int.mul_comm, Int.add_comm]
  rfl

theorem or_step (l : List Int) (k : Nat) (hl : Byt l) (hk : k < l.length) (h7 : k ≤ 7) :
    bits .or .u64 (numL (l.take k)) (IntKind.u64.wrap (IntKind.u64.wrap (l.getD k 0) * 2 ^ (8 * k))) = numL (l.take (k + 1)) := by
  have h1 := numL_bd (hl.take k)
  rw [List.length_take, Nat.min_eq_left (by omega)] at h1
  rw [or_byte _ _ k h7 h1.1 h1.2 (hl.at_ k).1 (hl.at_ k).2, numL_take_succ l k hk]
end Go.Proofs.YtepkhkfdokinmaaDoor
