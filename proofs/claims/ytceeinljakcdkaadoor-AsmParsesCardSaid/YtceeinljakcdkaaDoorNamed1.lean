/-
  The reference's answers on codes: named, some of its cases.
-/
import Derived.Test.YtceeinljakcdkaaDoorNamed
namespace Go.Proofs.YtceeinljakcdkaaDoor
open Go.RowKit

set_option maxRecDepth 100000 in
set_option maxHeartbeats 4000000 in
theorem named_l32 (w : World) : NamedAt 32 w := by
  unfold NamedAt
  go_enter Tryd.func55, Tryd.ntmps55
  go_wp2_with fail
  go_ret2
  exact ⟨rfl, Below.refl _ _⟩

set_option maxRecDepth 100000 in
set_option maxHeartbeats 4000000 in
theorem named_l128 (w : World) : NamedAt 128 w := by
  unfold NamedAt
  go_enter Tryd.func55, Tryd.ntmps55
  go_wp2_with fail
  go_ret2
  exact ⟨rfl, Below.refl _ _⟩

set_option maxRecDepth 100000 in
set_option maxHeartbeats 4000000 in
theorem named_l129 (w : World) : NamedAt 129 w := by
  unfold NamedAt
  go_enter Tryd.func55, Tryd.ntmps55
  go_wp2_with fail
  go_ret2
  exact ⟨rfl, Below.refl _ _⟩

set_option maxRecDepth 100000 in
set_option maxHeartbeats 4000000 in
theorem named_l22 (w : World) : NamedAt 22 w := by
  unfold NamedAt
  go_enter Tryd.func55, Tryd.ntmps55
  go_wp2_with fail
  go_ret2
  exact ⟨rfl, Below.refl _ _⟩

set_option maxRecDepth 100000 in
set_option maxHeartbeats 4000000 in
theorem named_l132 (w : World) : NamedAt 132 w := by
  unfold NamedAt
  go_enter Tryd.func55, Tryd.ntmps55
  go_wp2_with fail
  go_ret2
  exact ⟨rfl, Below.refl _ _⟩

set_option maxRecDepth 100000 in
set_option maxHeartbeats 4000000 in
theorem named_l7 (w : World) : NamedAt 7 w := by
  unfold NamedAt
  go_enter Tryd.func55, Tryd.ntmps55
  go_wp2_with fail
  go_ret2
  exact ⟨rfl, Below.refl _ _⟩

set_option maxRecDepth 100000 in
set_option maxHeartbeats 4000000 in
theorem named_l135 (w : World) : NamedAt 135 w := by
  unfold NamedAt
  go_enter Tryd.func55, Tryd.ntmps55
  go_wp2_with fail
  go_ret2
  exact ⟨rfl, Below.refl _ _⟩

set_option maxRecDepth 100000 in
set_option maxHeartbeats 4000000 in
theorem named_l6 (w : World) : NamedAt 6 w := by
  unfold NamedAt
  go_enter Tryd.func55, Tryd.ntmps55
  go_wp2_with fail
  go_ret2
  exact ⟨rfl, Below.refl _ _⟩

set_option maxRecDepth 100000 in
set_option maxHeartbeats 4000000 in
theorem named_l0 (w : World) : NamedAt 0 w := by
  unfold NamedAt
  go_enter Tryd.func55, Tryd.ntmps55
  go_wp2_with fail
  go_ret2
  exact ⟨rfl, Below.refl _ _⟩

set_option maxRecDepth 100000 in
set_option maxHeartbeats 4000000 in
theorem named_l1 (w : World) : NamedAt 1 w := by
  unfold NamedAt
  go_enter Tryd.func55, Tryd.ntmps55
  go_wp2_with fail
  go_ret2
  exact ⟨rfl, Below.refl _ _⟩

set_option maxRecDepth 100000 in
set_option maxHeartbeats 4000000 in
theorem named_l96 (w : World) : NamedAt 96 w := by
  unfold NamedAt
  go_enter Tryd.func55, Tryd.ntmps55
  go_wp2_with fail
  go_ret2
  exact ⟨rfl, Below.refl _ _⟩

set_option maxRecDepth 100000 in
set_option maxHeartbeats 4000000 in
theorem named_l97 (w : World) : NamedAt 97 w := by
  unfold NamedAt
  go_enter Tryd.func55, Tryd.ntmps55
  go_wp2_with fail
  go_ret2
  exact ⟨rfl, Below.refl _ _⟩

set_option maxRecDepth 100000 in
set_option maxHeartbeats 4000000 in
theorem named_l2 (w : World) : NamedAt 2 w := by
  unfold NamedAt
  go_enter Tryd.func55, Tryd.ntmps55
  go_wp2_with fail
  go_ret2
  exact ⟨rfl, Below.refl _ _⟩

set_option maxRecDepth 100000 in
set_option maxHeartbeats 4000000 in
theorem named_l3 (w : World) : NamedAt 3 w := by
  unfold NamedAt
  go_enter Tryd.func55, Tryd.ntmps55
  go_wp2_with fail
  go_ret2
  exact ⟨rfl, Below.refl _ _⟩

set_option maxRecDepth 100000 in
set_option maxHeartbeats 4000000 in
theorem named_l5 (w : World) : NamedAt 5 w := by
  unfold NamedAt
  go_enter Tryd.func55, Tryd.ntmps55
  go_wp2_with fail
  go_ret2
  exact ⟨rfl, Below.refl _ _⟩

set_option maxRecDepth 100000 in
set_option maxHeartbeats 4000000 in
theorem named_c4 (w : World) : NamedAt 4 w := by
  have hs : ∀ w, Calls Tryd.prog 67 #[.int .u16 4] w fun e w' => e = .returned (.string ⟨#[97, 100, 100]⟩) ∧ w' = w := fun w => sided_any 4 w (by decide) (by decide)
  unfold NamedAt
  go_enter Tryd.func55, Tryd.ntmps55
  go_wp2_with fail
  refine (hs _).mono ?_
  rintro e w1 ⟨rfl, rfl⟩
  go_wp2_with fail
  go_ret2
  exact ⟨rfl, (Below.refl _ _)⟩

set_option maxRecDepth 100000 in
set_option maxHeartbeats 4000000 in
theorem named_c12 (w : World) : NamedAt 12 w := by
  have hs : ∀ w, Calls Tryd.prog 67 #[.int .u16 12] w fun e w' => e = .returned (.string ⟨#[97, 100, 100]⟩) ∧ w' = w := fun w => sided_any 12 w (by decide) (by decide)
  unfold NamedAt
  go_enter Tryd.func55, Tryd.ntmps55
  go_wp2_with fail
  refine (hs _).mono ?_
  rintro e w1 ⟨rfl, rfl⟩
  go_wp2_with fail
  go_ret2
  exact ⟨rfl, (Below.refl _ _)⟩

set_option maxRecDepth 100000 in
set_option maxHeartbeats 4000000 in
theorem named_c13 (w : World) : NamedAt 13 w := by
  have hs : ∀ w, Calls Tryd.prog 67 #[.int .u16 13] w fun e w' => e = .returned (.string ⟨#[97, 100, 100]⟩) ∧ w' = w := fun w => sided_any 13 w (by decide) (by decide)
  unfold NamedAt
  go_enter Tryd.func55, Tryd.ntmps55
  go_wp2_with fail
  refine (hs _).mono ?_
  rintro e w1 ⟨rfl, rfl⟩
  go_wp2_with fail
  go_ret2
  exact ⟨rfl, (Below.refl _ _).alloc (Nat.le_refl _) _⟩

set_option maxRecDepth 100000 in
set_option maxHeartbeats 4000000 in
theorem named_c20 (w : World) : NamedAt 20 w := by
  have hs : ∀ w, Calls Tryd.prog 67 #[.int .u16 20] w fun e w' => e = .returned (.string ⟨#[115, 117, 98]⟩) ∧ w' = w := fun w => sided_any 20 w (by decide) (by decide)
  unfold NamedAt
  go_enter Tryd.func55, Tryd.ntmps55
  go_wp2_with fail
  refine (hs _).mono ?_
  rintro e w1 ⟨rfl, rfl⟩
  go_wp2_with fail
  go_ret2
  exact ⟨rfl, (Below.refl _ _)⟩
end Go.Proofs.YtceeinljakcdkaaDoor
