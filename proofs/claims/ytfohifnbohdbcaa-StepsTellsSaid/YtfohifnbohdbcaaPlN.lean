/-
  slices.Index, Contains at numbers.
-/
import Derived.Test.YtfohifnbohdbcaaRi7
namespace Go.Proofs.Ytfohifnbohdbcaa
open Go.RowKit Go.Shelf
set_option linter.unusedVariables false
set_option linter.unusedSimpArgs false

/-- Where a number is; -1, if it is not there. -/
def IxR (l : List Int) (x r : Int) : Prop := (∃ k : Nat, r = k ∧ k < l.length ∧ l.getD k 0 = x) ∨ r = -1 ∧ ∀ j, j < l.length → l.getD j 0 ≠ x
set_option maxRecDepth 100000 in
set_option maxHeartbeats 2000000 in
theorem indexZ_any (A : Option Addr) (m c : Nat) (l : List Int) (x : Int) (w : World) (hA : Ri7 w w.heap.size A l) (hm : m = l.length) (hmc : m ≤ c) (h6 : m ≤ 1000000) :
    Calls Try.prog 95 #[.slice A m c, .int .i64 x] w fun e w' => ∃ r, e = .returned (.int .i64 r) ∧ IxR l x r ∧ Below w.heap.size w w' := by
  have B0 := Below.refl w.heap.size w
  have HM := Lib.hid hm
  clear hm
  go_enter Try.func95, Try.ntmps95
  go_wp2_with fail
  go_loopw [8] (fun i wr' => ∃ (k : Nat) (wr : World), wr = wr' ∧ k ≤ m ∧ i = .int .i64 k ∧ Hid (∀ j, j < k → l.getD j 0 ≠ x) ∧ Below w.heap.size w wr) (fun i _ => m - (intOf i).toNat)
  case atStart => exact ⟨0, _, rfl, Nat.zero_le _, rfl, Lib.hid (fun j hj => absurd hj (Nat.not_lt_zero j)), B0⟩
  case round =>
    clear B0
    obtain ⟨k, wr, hwr, hk, rfl, hall, hB⟩ := hrel
    subst hwr
    by_cases hlt : k < m
    · have hlt' : (k : Int) < (m : Int) := by omega
      have hkl : k < l.length := by have := HM.out; omega
      obtain ⟨b, off, rfl, hb, hc⟩ := hA.below hB (Nat.le_refl _) k hkl
      obtain ⟨y, hy⟩ : ∃ y, l.getD k 0 = y := ⟨_, rfl⟩
      rw [hy] at hc
      have HY := Lib.hid hy
      have HK := Lib.hid hkl
      clear hy hkl
      cases hxy : (x == y)
      · have HN := Lib.hid (show x ≠ y by simpa using hxy)
        go_wp2_with fail
        first
          | (go_region; go_wp2_with fail)
          | skip
        go_roundw
        case rel =>
          refine ⟨k + 1, _, rfl, by omega, by go_num, Lib.hid (fun j hj => ?_), by first | exact hB.drew | exact hB⟩
          rcases Nat.lt_succ_iff_lt_or_eq.1 hj with h | rfl
          · exact hall.out j h
          · rw [HY.out]; exact fun h => HN.out h.symm
        case measure => simp [intOf]; omega
      · have HN := Lib.hid (show x = y by simpa using hxy)
        go_wp2_with fail
        first
          | (go_region; go_wp2_with fail)
          | skip
        go_ret
        exact ⟨_, rfl, .inl ⟨k, rfl, HK.out, by rw [HY.out, HN.out]⟩, by first | exact hB.drew | exact hB⟩
    · obtain rfl : k = m := by omega
      go_wp2_with fail
      go_ret
      exact ⟨_, rfl, .inr ⟨rfl, by rw [← HM.out]; exact hall.out⟩, hB⟩
theorem IxR.mem {l : List Int} {x r : Int} (h : IxR l x r) : decide (0 ≤ r) = l.contains x := by
  rcases h with ⟨k, rfl, hk, he⟩ | ⟨rfl, hn⟩
  · have h1 : l.contains x = true := by
      rw [List.contains_iff_mem, ← he]
      rw [show l.getD k 0 = l[k] by simp [List.getD, hk]]
      exact List.getElem_mem hk
    rw [h1]
    simp
  · have h1 : l.contains x = false := by
      rw [← Bool.not_eq_true, List.contains_iff_mem]
      intro hm
      obtain ⟨k, hk, he⟩ := List.getElem_of_mem hm
      exact hn k hk (by simpa [List.getD, hk] using he)
    rw [h1]
    rfl
set_option maxRecDepth 100000 in
set_option maxHeartbeats 2000000 in
theorem containsZ_any (A : Option Addr) (m c : Nat) (l : List Int) (x : Int) (w : World) (hA : Ri7 w w.heap.size A l) (hm : m = l.length) (hmc : m ≤ c) (h6 : m ≤ 1000000) :
    Calls Try.prog 82 #[.slice A m c, .int .i64 x] w fun e w' => e = .returned (.bool (l.contains x)) ∧ Below w.heap.size w w' := by
  have HI := Lib.hid (indexZ_any A m c l x w hA hm hmc h6)
  clear hm
  go_enter Try.func82, Try.ntmps82
  go_wp2_with fail
  refine HI.out.mono ?_
  rintro e w1 ⟨r, rfl, hr, b1⟩
  have HR := Lib.hid hr.mem
  clear hr HI
  go_wp2_with fail
  go_ret
  exact ⟨by rw [← HR.out]; rfl, b1⟩
end Go.Proofs.Ytfohifnbohdbcaa
