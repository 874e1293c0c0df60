/-
  OctetLast: the walk. Of two numbers the greater one has the greater byte at the last place at which they differ.
-/
import Derived.Test.YtabccpoolakfiaaFirst
import Derived.RegionTactic
namespace Go.Proofs.Ytabccpoolakfiaa
open Go.RowKit

theorem wf_bd64' {x : Int} (h : (Lit.int .u64 x).wf = true) : 0 ≤ x ∧ x < 256 ^ 8 := by
  simp [Lit.wf, IntKind.min, IntKind.max, IntKind.signed, IntKind.bits] at h
  exact ⟨h.1, by have e : (256 : Int) ^ 8 = 18446744073709551616 := (by decide); omega⟩
theorem div_step (x : Int) (n : Nat) : x / 256 ^ n = 256 * (x / 256 ^ (n + 1)) + byt x n := by
  unfold byt
  have hn := pow256_pos n
  rw [pow8, Int.pow_succ, ← Int.ediv_ediv_of_nonneg (by omega)]
  omega
theorem last_down {x y : Int} {n : Nat} (h : x / 256 ^ (n + 1) = y / 256 ^ (n + 1)) (hb : byt x n = byt y n) : x / 256 ^ n = y / 256 ^ n := by
  rw [div_step x n, div_step y n, h, hb]
theorem last_cmp {x y : Int} {n : Nat} (h : x / 256 ^ (n + 1) = y / 256 ^ (n + 1)) (hb : ¬ byt x n = byt y n) : decide (y < x) = decide (byt y n < byt x n) := by
  have h1 := div_step x n
  have h2 := div_step y n
  have hp := pow256_pos n
  have e1 : y < x ↔ byt y n < byt x n := by
    constructor
    · intro hlt
      have := Int.ediv_le_ediv hp (Int.le_of_lt hlt)
      omega
    · intro hlt
      have : y / 256 ^ n < x / 256 ^ n := by omega
      rcases Int.lt_or_le y x with h | h
      · exact h
      · have := Int.ediv_le_ediv hp h
        omega
  simp only [e1]

set_option maxHeartbeats 2000000 in
theorem last_walk (x y : Int) (hx0 : 0 ≤ x) (hx : x < 256 ^ 8) (hy0 : 0 ≤ y) (hy : y < 256 ^ 8) (w : World) :
    Calls Try.prog 8 #[.int .u64 x, .int .u64 y] w fun e w' => e = .returned (.bool true) ∧ Below w.heap.size w w' := by
  have H0 := Lib.hid (show x / 256 ^ 8 = y / 256 ^ 8 by rw [Int.ediv_eq_zero_of_lt hx0 hx, Int.ediv_eq_zero_of_lt hy0 hy])
  clear hx hy
  go_enter Try.func8, Try.ntmps8
  go_wp2_with fail
  refine (wakes_any w).mono ?_
  rintro e w1 ⟨rfl, b1⟩
  go_wp2_with fail
  refine (put64_any none 0 0 [] x _ Rd.nil (by omega)).mono ?_
  rintro e w2 ⟨rfl, h2, b2⟩
  rw [List.nil_append] at h2
  go_wp2_with fail
  refine (put64_any none 0 0 [] y _ Rd.nil (by omega)).mono ?_
  rintro e w3 ⟨rfl, h3, b3⟩
  rw [List.nil_append] at h3
  have h2' := h2.below b3 h2.lt
  have o3 : Below w.heap.size w w3 := (b1.trans (b2.mono b1.size)).trans (b3.mono (Nat.le_trans b1.size b2.size))
  clear b1 b2 b3 h2
  go_wp2_with fail
  go_loopw [7] (fun i wr => ∃ k : Int, -1 ≤ k ∧ k ≤ 7 ∧ i = .int .i64 k ∧ Hid (x / 256 ^ (k + 1).toNat = y / 256 ^ (k + 1).toNat) ∧ Wh wr w1.heap.size (low x 8) ∧ Wh wr w2.heap.size (low y 8) ∧ Below w.heap.size w wr) (fun i _ => (intOf i + 1).toNat)
  case atStart => exact ⟨7, by omega, by omega, rfl, H0, h2', h3, o3⟩
  case round =>
    obtain ⟨k, hk1, hk2, rfl, hq, ha, hb, ho⟩ := hrel
    by_cases h0 : 0 ≤ k
    · obtain ⟨n, rfl⟩ := Int.eq_ofNat_of_zero_le h0
      have ca : wr.cell? ⟨w1.heap.size, n, none⟩ = some (.int .u8 (byt x n)) := by
        rw [ha.cell (k := n) (by rw [low_length]; omega), low_getD _ _ _ (by omega)]
      have cb : wr.cell? ⟨w2.heap.size, n, none⟩ = some (.int .u8 (byt y n)) := by
        rw [hb.cell (k := n) (by rw [low_length]; omega), low_getD _ _ _ (by omega)]
      have hq' : Hid (x / 256 ^ (n + 1) = y / 256 ^ (n + 1)) := hq
      by_cases hbb : byt x n = byt y n
      · have hne : (byt x n != byt y n) = false := by simp [hbb]
        have hd := Lib.hid (last_down hq'.out hbb)
        clear hbb
        go_wp2
        go_region
        all_goals go_wp2
        all_goals go_roundw
        case rel =>
          refine ⟨(n : Int) - 1, by omega, by omega, rfl, ?_, ha.drew, hb.drew, ho.drew⟩
          have e : ((n : Int) - 1 + 1).toNat = n := by omega
          rw [e]
          exact hd
        case measure => simp [intOf]
      · have hne : (byt x n != byt y n) = true := by simp [hbb]
        have hd := last_cmp hq'.out hbb
        clear hbb
        go_wp2
        go_region
        all_goals go_wp2
        all_goals go_region
        all_goals go_wp2
        all_goals go_ret
        all_goals exact ⟨rfl, ho.drew.drew⟩
    · obtain rfl : k = -1 := by omega
      have hxy : (x == y) = true := by
        have := hq.out
        simpa using this
      go_wp2
      go_ret
      exact ⟨rfl, ho⟩
end Go.Proofs.Ytabccpoolakfiaa
