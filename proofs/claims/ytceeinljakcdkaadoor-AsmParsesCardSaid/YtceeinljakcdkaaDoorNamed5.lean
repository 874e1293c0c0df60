/-
  The reference's answers on codes: named, some of its cases.
-/
import Derived.Test.YtceeinljakcdkaaDoorNamed
namespace Go.Proofs.YtceeinljakcdkaaDoor
open Go.RowKit

set_option maxRecDepth 100000 in
set_option maxHeartbeats 4000000 in
theorem named_c253 (w : World) : NamedAt 253 w := by
  have hs : ∀ w, Calls Tryd.prog 67 #[.int .u16 253] w fun e w' => e = .returned (.string ⟨#[]⟩) ∧ w' = w := fun w => sided_any 253 w (by decide) (by decide)
  unfold NamedAt
  go_enter Tryd.func55, Tryd.ntmps55
  go_wp2_with fail
  refine (hs _).mono ?_
  rintro e w1 ⟨rfl, rfl⟩
  go_wp2_with fail
  go_ret2
  exact ⟨rfl, (Below.refl _ _).alloc (Nat.le_refl _) _⟩
end Go.Proofs.YtceeinljakcdkaaDoor
