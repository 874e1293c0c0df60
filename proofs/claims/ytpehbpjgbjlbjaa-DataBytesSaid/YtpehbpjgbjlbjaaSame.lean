/-
  The reference's Same.
-/
import Derived.Test.YtpehbpjgbjlbjaaApp
namespace Go.Proofs.Ytpehbpjgbjlbjaa
open Go.RowKit

set_option maxHeartbeats 1000000 in
/-- Same of two slices that read alike. -/
theorem same_true (A A' : Option Addr) (n c c' B B' : Nat) (l : List Int) (w : World) (h : Rd w B A n l) (h' : Rd w B' A' n l) (hn : n ≤ 1000000) (hB : B ≤ w.heap.size) (hB' : B' ≤ w.heap.size) :
    Calls Try.prog 10 #[.slice A n c, .slice A' n c'] w fun e w' => e = .returned (.bool true) ∧ Below w.heap.size w w' := by
  go_enter Try.func10, Try.ntmps10
  go_wp2
  go_loopw [5] (fun i wr => ∃ k : Nat, k ≤ n ∧ i = .int .i64 k ∧ Below w.heap.size w wr) (fun i _ => n - (intOf i).toNat)
  case atStart => exact ⟨0, Nat.zero_le _, rfl, Below.refl _ _⟩
  case round =>
    obtain ⟨k, hk, rfl, hb⟩ := hrel
    by_cases hlt : k < n
    · obtain ⟨b, off, rfl, _, c1⟩ := (h.below (hb.mono hB)).at_ hlt
      obtain ⟨b', off', rfl, _, c2⟩ := (h'.below (hb.mono hB')).at_ hlt
      have hlt' : (k : Int) < n := by omega
      go_wp2
      go_region
      all_goals go_wp2
      all_goals go_roundw
      case rel => exact ⟨k + 1, by omega, by go_num, hb.drew⟩
      case measure => simp [intOf]; omega
    · go_wp2
      go_ret
      exact ⟨rfl, hb⟩
end Go.Proofs.Ytpehbpjgbjlbjaa
