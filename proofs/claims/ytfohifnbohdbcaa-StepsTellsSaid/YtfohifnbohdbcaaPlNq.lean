/-
  slices.Index, Contains at numbers: they only read.
-/
import Derived.Test.YtfohifnbohdbcaaPlN
import Derived.BigQuiet
namespace Go.Proofs.Ytfohifnbohdbcaa
open Go.RowKit Go.Shelf
set_option linter.unusedVariables false
set_option linter.unusedSimpArgs false

theorem ri7_drewN {w : World} {B : Nat} {A : Option Addr} {l : List Int} (h : Ri7 w B A l) (n : Nat) : Ri7 (w.drewN n) B A l := h
set_option maxRecDepth 100000 in
set_option maxHeartbeats 2000000 in
theorem indexZq (A : Option Addr) (m c : Nat) (l : List Int) (x : Int) (w : World) (hA : Ri7 w w.heap.size A l) (hm : m = l.length) (hmc : m ≤ c) (h6 : m ≤ 1000000) :
    Calls Try.prog 95 #[.slice A m c, .int .i64 x] w fun e w' => ∃ r, e = .returned (.int .i64 r) ∧ IxR l x r ∧ w' = w := by
  have HM := Lib.hid hm
  clear hm
  go_enter Try.func95, Try.ntmps95
  go_wp2_with fail
  go_loopw [8] (fun i wr' => ∃ (k : Nat) (wr : World), wr = wr' ∧ k ≤ m ∧ i = .int .i64 k ∧ Hid (∀ j, j < k → l.getD j 0 ≠ x) ∧ Hid (wr = w)) (fun i _ => m - (intOf i).toNat)
  case atStart => exact ⟨0, _, rfl, Nat.zero_le _, rfl, Lib.hid (fun j hj => absurd hj (Nat.not_lt_zero j)), Lib.hid rfl⟩
  case round =>
    obtain ⟨k, wr, hwr, hk, rfl, hall, HW⟩ := hrel
    subst hwr
    by_cases hlt : k < m
    · have hlt' : (k : Int) < (m : Int) := by omega
      have hkl : k < l.length := by have := HM.out; omega
      have hAr : Ri7 wr w.heap.size A l := by rw [HW.out]; exact hA
      obtain ⟨b, off, rfl, hb, hc⟩ := hAr k hkl
      clear hAr
      obtain ⟨y, hy⟩ : ∃ y, l.getD k 0 = y := ⟨_, rfl⟩
      rw [hy] at hc
      have HY := Lib.hid hy
      have HK := Lib.hid hkl
      clear hy hkl
      cases hxy : (x == y)
      · have HN := Lib.hid (show x ≠ y by simpa using hxy)
        go_wp2_with (fail)
        go_roundw
        case rel =>
          refine ⟨k + 1, _, rfl, by omega, by go_num, Lib.hid (fun j hj => ?_), Lib.hid ?_⟩
          · rcases Nat.lt_succ_iff_lt_or_eq.1 hj with h | rfl
            · exact hall.out j h
            · rw [HY.out]; exact fun h => HN.out h.symm
          · exact HW.out
        case measure => simp [intOf]; omega
      · have HN := Lib.hid (show x = y by simpa using hxy)
        go_wp2_with (fail)
        go_ret
        exact ⟨_, rfl, .inl ⟨k, rfl, HK.out, by rw [HY.out, HN.out]⟩, HW.out⟩
    · obtain rfl : k = m := by omega
      go_wp2_with fail
      go_ret
      exact ⟨_, rfl, .inr ⟨rfl, by rw [← HM.out]; exact hall.out⟩, HW.out⟩
set_option maxRecDepth 100000 in
set_option maxHeartbeats 2000000 in
theorem containsZq (A : Option Addr) (m c : Nat) (l : List Int) (x : Int) (w : World) (hA : Ri7 w w.heap.size A l) (hm : m = l.length) (hmc : m ≤ c) (h6 : m ≤ 1000000) :
    Calls Try.prog 82 #[.slice A m c, .int .i64 x] w fun e w' => e = .returned (.bool (l.contains x)) ∧ w' = w := by
  have HI := Lib.hid (indexZq A m c l x w hA hm hmc h6)
  clear hm
  go_enter Try.func82, Try.ntmps82
  go_wp2_with fail
  refine HI.out.mono ?_
  rintro e w1 ⟨r, rfl, hr, rfl⟩
  have HR := Lib.hid hr.mem
  clear hr HI
  go_wp2_with fail
  go_ret
  exact ⟨by rw [← HR.out]; rfl, rfl⟩
end Go.Proofs.Ytfohifnbohdbcaa
