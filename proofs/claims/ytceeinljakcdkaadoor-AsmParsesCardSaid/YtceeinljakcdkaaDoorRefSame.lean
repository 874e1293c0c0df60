/-
  The reference's Same over rows of instructions that read alike.
-/
import Derived.Test.YtceeinljakcdkaaDoorIns
namespace Go.Proofs.YtceeinljakcdkaaDoor
open Go.RowKit

set_option maxHeartbeats 1000000 in
theorem refsameI_true (A A' : Option Addr) (n c c' B B' : Nat) (f f' : Nat → Ins) (w : World) (h : Ri w B A n f) (h' : Ri w B' A' n f') (hff : ∀ k, k < n → f' k = f k) (hn : n ≤ 300) :
    Calls Tryd.prog 13 #[.slice A n c, .slice A' n c'] w fun e w' => e = .returned (.bool true) ∧ Below w.heap.size w w' := by
  go_enter Tryd.func13, Tryd.ntmps13
  go_wp2
  go_loopw [13] (fun i wr => ∃ k : Nat, k ≤ n ∧ ∃ q, wr = w.drewN q ∧ i = .int .i64 k) (fun i _ => n - (intOf i).toNat)
  case atStart => exact ⟨0, Nat.zero_le _, 0, rfl, rfl⟩
  case round =>
    obtain ⟨k, hk, q, rfl, rfl⟩ := hrel
    by_cases hlt : k < n
    · obtain ⟨b, off, rfl, _, ⟨p0, p1, p2, p3⟩, _⟩ := h k hlt
      obtain ⟨b', off', rfl, _, ⟨r0, r1, r2, r3⟩, _⟩ := h' k hlt
      rw [hff k hlt] at r0 r1 r2 r3
      have hlt' : (k : Int) < n := by omega
      go_wp2
      go_quiet (fail)
      go_wp2
      go_roundw
      case rel => exact ⟨k + 1, by omega, q + nq, rfl, by go_num⟩
      case measure => simp [intOf]; omega
    · go_wp2
      go_ret
      exact ⟨rfl, below_drewN (Below.refl _ _) q⟩
end Go.Proofs.YtceeinljakcdkaaDoor
