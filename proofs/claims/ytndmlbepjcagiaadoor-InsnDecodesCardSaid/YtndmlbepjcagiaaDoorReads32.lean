/-
  The reader's method U32.
-/
import Derived.Test.YtndmlbepjcagiaaDoorRead
namespace Go.Proofs.YtndmlbepjcagiaaDoor
open Go.RowKit

theorem seen_bd {l : List Int} (h : Byt l) (f : Int) (n : Nat) : 0 ≤ numL (seen l f n) ∧ numL (seen l f n) < 256 ^ n := by
  unfold seen
  split
  · rename_i hc
    have := numL_bd (h.take n)
    rwa [List.length_take, Nat.min_eq_left hc.2] at this
  · have := pow256_pos n
    simp only [numL]
    omega
theorem seen_bd4 {l : List Int} (h : Byt l) (f : Int) : 0 ≤ numL (seen l f 4) ∧ numL (seen l f 4) ≤ 4294967295 := by
  have h1 := seen_bd h f 4
  have h2 : (256 : Int) ^ 4 = 4294967296 := by decide
  omega

set_option maxHeartbeats 400000 in
theorem u32_any (r : Nat) (l : List Int) (f : Int) (w : World) (h : Rdr w r l f) :
    Calls Tryd.prog 43 #[.pointer (some ⟨r, 0, none⟩)] w fun e w' =>
      e = .returned (.int .u32 (numL (seen l f 4))) ∧ Rdr w' r (left l f 4) (falt l f 4) ∧ But r w w' := by
  obtain ⟨h0, h1⟩ := seen_bd4 h.byt f
  go_enter Tryd.func43, Tryd.ntmps43
  go_wp2_with (go_at_call 50; (refine (number_any r 4 l f _ h (by omega)).mono ?_; rintro e w' ⟨rfl, q1, q2⟩))
  go_ret
  exact ⟨rfl, q1, q2⟩
end Go.Proofs.YtndmlbepjcagiaaDoor
