/-
  The reference's answers on codes: named, some of its cases.
-/
import Derived.Test.YtceeinljakcdkaaDoorNamed
namespace Go.Proofs.YtceeinljakcdkaaDoor
open Go.RowKit

set_option maxRecDepth 100000 in
set_option maxHeartbeats 4000000 in
theorem named_c21 (w : World) : NamedAt 21 w := by
  have hs : ∀ w, Calls Tryd.prog 67 #[.int .u16 21] w fun e w' => e = .returned (.string ⟨#[115, 117, 98]⟩) ∧ w' = w := fun w => sided_any 21 w (by decide) (by decide)
  unfold NamedAt
  go_enter Tryd.func55, Tryd.ntmps55
  go_wp2_with fail
  refine (hs _).mono ?_
  rintro e w1 ⟨rfl, rfl⟩
  go_wp2_with fail
  go_ret2
  exact ⟨rfl, (Below.refl _ _).alloc (Nat.le_refl _) _⟩

set_option maxRecDepth 100000 in
set_option maxHeartbeats 4000000 in
theorem named_c28 (w : World) : NamedAt 28 w := by
  have hs : ∀ w, Calls Tryd.prog 67 #[.int .u16 28] w fun e w' => e = .returned (.string ⟨#[115, 117, 98]⟩) ∧ w' = w := fun w => sided_any 28 w (by decide) (by decide)
  unfold NamedAt
  go_enter Tryd.func55, Tryd.ntmps55
  go_wp2_with fail
  refine (hs _).mono ?_
  rintro e w1 ⟨rfl, rfl⟩
  go_wp2_with fail
  go_ret2
  exact ⟨rfl, (Below.refl _ _)⟩

set_option maxRecDepth 100000 in
set_option maxHeartbeats 4000000 in
theorem named_c29 (w : World) : NamedAt 29 w := by
  have hs : ∀ w, Calls Tryd.prog 67 #[.int .u16 29] w fun e w' => e = .returned (.string ⟨#[115, 117, 98]⟩) ∧ w' = w := fun w => sided_any 29 w (by decide) (by decide)
  unfold NamedAt
  go_enter Tryd.func55, Tryd.ntmps55
  go_wp2_with fail
  refine (hs _).mono ?_
  rintro e w1 ⟨rfl, rfl⟩
  go_wp2_with fail
  go_ret2
  exact ⟨rfl, (Below.refl _ _).alloc (Nat.le_refl _) _⟩

set_option maxRecDepth 100000 in
set_option maxHeartbeats 4000000 in
theorem named_c36 (w : World) : NamedAt 36 w := by
  have hs : ∀ w, Calls Tryd.prog 67 #[.int .u16 36] w fun e w' => e = .returned (.string ⟨#[109, 117, 108]⟩) ∧ w' = w := fun w => sided_any 36 w (by decide) (by decide)
  unfold NamedAt
  go_enter Tryd.func55, Tryd.ntmps55
  go_wp2_with fail
  refine (hs _).mono ?_
  rintro e w1 ⟨rfl, rfl⟩
  go_wp2_with fail
  go_ret2
  exact ⟨rfl, (Below.refl _ _)⟩

set_option maxRecDepth 100000 in
set_option maxHeartbeats 4000000 in
theorem named_c37 (w : World) : NamedAt 37 w := by
  have hs : ∀ w, Calls Tryd.prog 67 #[.int .u16 37] w fun e w' => e = .returned (.string ⟨#[109, 117, 108]⟩) ∧ w' = w := fun w => sided_any 37 w (by decide) (by decide)
  unfold NamedAt
  go_enter Tryd.func55, Tryd.ntmps55
  go_wp2_with fail
  refine (hs _).mono ?_
  rintro e w1 ⟨rfl, rfl⟩
  go_wp2_with fail
  go_ret2
  exact ⟨rfl, (Below.refl _ _).alloc (Nat.le_refl _) _⟩

set_option maxRecDepth 100000 in
set_option maxHeartbeats 4000000 in
theorem named_c44 (w : World) : NamedAt 44 w := by
  have hs : ∀ w, Calls Tryd.prog 67 #[.int .u16 44] w fun e w' => e = .returned (.string ⟨#[109, 117, 108]⟩) ∧ w' = w := fun w => sided_any 44 w (by decide) (by decide)
  unfold NamedAt
  go_enter Tryd.func55, Tryd.ntmps55
  go_wp2_with fail
  refine (hs _).mono ?_
  rintro e w1 ⟨rfl, rfl⟩
  go_wp2_with fail
  go_ret2
  exact ⟨rfl, (Below.refl _ _)⟩

set_option maxRecDepth 100000 in
set_option maxHeartbeats 4000000 in
theorem named_c45 (w : World) : NamedAt 45 w := by
  have hs : ∀ w, Calls Tryd.prog 67 #[.int .u16 45] w fun e w' => e = .returned (.string ⟨#[109, 117, 108]⟩) ∧ w' = w := fun w => sided_any 45 w (by decide) (by decide)
  unfold NamedAt
  go_enter Tryd.func55, Tryd.ntmps55
  go_wp2_with fail
  refine (hs _).mono ?_
  rintro e w1 ⟨rfl, rfl⟩
  go_wp2_with fail
  go_ret2
  exact ⟨rfl, (Below.refl _ _).alloc (Nat.le_refl _) _⟩

set_option maxRecDepth 100000 in
set_option maxHeartbeats 4000000 in
theorem named_c52 (w : World) : NamedAt 52 w := by
  have hs : ∀ w, Calls Tryd.prog 67 #[.int .u16 52] w fun e w' => e = .returned (.string ⟨#[100, 105, 118]⟩) ∧ w' = w := fun w => sided_any 52 w (by decide) (by decide)
  unfold NamedAt
  go_enter Tryd.func55, Tryd.ntmps55
  go_wp2_with fail
  refine (hs _).mono ?_
  rintro e w1 ⟨rfl, rfl⟩
  go_wp2_with fail
  go_ret2
  exact ⟨rfl, (Below.refl _ _)⟩

set_option maxRecDepth 100000 in
set_option maxHeartbeats 4000000 in
theorem named_c53 (w : World) : NamedAt 53 w := by
  have hs : ∀ w, Calls Tryd.prog 67 #[.int .u16 53] w fun e w' => e = .returned (.string ⟨#[100, 105, 118]⟩) ∧ w' = w := fun w => sided_any 53 w (by decide) (by decide)
  unfold NamedAt
  go_enter Tryd.func55, Tryd.ntmps55
  go_wp2_with fail
  refine (hs _).mono ?_
  rintro e w1 ⟨rfl, rfl⟩
  go_wp2_with fail
  go_ret2
  exact ⟨rfl, (Below.refl _ _).alloc (Nat.le_refl _) _⟩

set_option maxRecDepth 100000 in
set_option maxHeartbeats 4000000 in
theorem named_c60 (w : World) : NamedAt 60 w := by
  have hs : ∀ w, Calls Tryd.prog 67 #[.int .u16 60] w fun e w' => e = .returned (.string ⟨#[100, 105, 118]⟩) ∧ w' = w := fun w => sided_any 60 w (by decide) (by decide)
  unfold NamedAt
  go_enter Tryd.func55, Tryd.ntmps55
  go_wp2_with fail
  refine (hs _).mono ?_
  rintro e w1 ⟨rfl, rfl⟩
  go_wp2_with fail
  go_ret2
  exact ⟨rfl, (Below.refl _ _)⟩

set_option maxRecDepth 100000 in
set_option maxHeartbeats 4000000 in
theorem named_c61 (w : World) : NamedAt 61 w := by
  have hs : ∀ w, Calls Tryd.prog 67 #[.int .u16 61] w fun e w' => e = .returned (.string ⟨#[100, 105, 118]⟩) ∧ w' = w := fun w => sided_any 61 w (by decide) (by decide)
  unfold NamedAt
  go_enter Tryd.func55, Tryd.ntmps55
  go_wp2_with fail
  refine (hs _).mono ?_
  rintro e w1 ⟨rfl, rfl⟩
  go_wp2_with fail
  go_ret2
  exact ⟨rfl, (Below.refl _ _).alloc (Nat.le_refl _) _⟩

set_option maxRecDepth 100000 in
set_option maxHeartbeats 4000000 in
theorem named_c68 (w : World) : NamedAt 68 w := by
  have hs : ∀ w, Calls Tryd.prog 67 #[.int .u16 68] w fun e w' => e = .returned (.string ⟨#[111, 114]⟩) ∧ w' = w := fun w => sided_any 68 w (by decide) (by decide)
  unfold NamedAt
  go_enter Tryd.func55, Tryd.ntmps55
  go_wp2_with fail
  refine (hs _).mono ?_
  rintro e w1 ⟨rfl, rfl⟩
  go_wp2_with fail
  go_ret2
  exact ⟨rfl, (Below.refl _ _)⟩

set_option maxRecDepth 100000 in
set_option maxHeartbeats 4000000 in
theorem named_c69 (w : World) : NamedAt 69 w := by
  have hs : ∀ w, Calls Tryd.prog 67 #[.int .u16 69] w fun e w' => e = .returned (.string ⟨#[111, 114]⟩) ∧ w' = w := fun w => sided_any 69 w (by decide) (by decide)
  unfold NamedAt
  go_enter Tryd.func55, Tryd.ntmps55
  go_wp2_with fail
  refine (hs _).mono ?_
  rintro e w1 ⟨rfl, rfl⟩
  go_wp2_with fail
  go_ret2
  exact ⟨rfl, (Below.refl _ _).alloc (Nat.le_refl _) _⟩

set_option maxRecDepth 100000 in
set_option maxHeartbeats 4000000 in
theorem named_c76 (w : World) : NamedAt 76 w := by
  have hs : ∀ w, Calls Tryd.prog 67 #[.int .u16 76] w fun e w' => e = .returned (.string ⟨#[111, 114]⟩) ∧ w' = w := fun w => sided_any 76 w (by decide) (by decide)
  unfold NamedAt
  go_enter Tryd.func55, Tryd.ntmps55
  go_wp2_with fail
  refine (hs _).mono ?_
  rintro e w1 ⟨rfl, rfl⟩
  go_wp2_with fail
  go_ret2
  exact ⟨rfl, (Below.refl _ _)⟩

set_option maxRecDepth 100000 in
set_option maxHeartbeats 4000000 in
theorem named_c77 (w : World) : NamedAt 77 w := by
  have hs : ∀ w, Calls Tryd.prog 67 #[.int .u16 77] w fun e w' => e = .returned (.string ⟨#[111, 114]⟩) ∧ w' = w := fun w => sided_any 77 w (by decide) (by decide)
  unfold NamedAt
  go_enter Tryd.func55, Tryd.ntmps55
  go_wp2_with fail
  refine (hs _).mono ?_
  rintro e w1 ⟨rfl, rfl⟩
  go_wp2_with fail
  go_ret2
  exact ⟨rfl, (Below.refl _ _).alloc (Nat.le_refl _) _⟩

set_option maxRecDepth 100000 in
set_option maxHeartbeats 4000000 in
theorem named_c84 (w : World) : NamedAt 84 w := by
  have hs : ∀ w, Calls Tryd.prog 67 #[.int .u16 84] w fun e w' => e = .returned (.string ⟨#[97, 110, 100]⟩) ∧ w' = w := fun w => sided_any 84 w (by decide) (by decide)
  unfold NamedAt
  go_enter Tryd.func55, Tryd.ntmps55
  go_wp2_with fail
  refine (hs _).mono ?_
  rintro e w1 ⟨rfl, rfl⟩
  go_wp2_with fail
  go_ret2
  exact ⟨rfl, (Below.refl _ _)⟩

set_option maxRecDepth 100000 in
set_option maxHeartbeats 4000000 in
theorem named_c85 (w : World) : NamedAt 85 w := by
  have hs : ∀ w, Calls Tryd.prog 67 #[.int .u16 85] w fun e w' => e = .returned (.string ⟨#[97, 110, 100]⟩) ∧ w' = w := fun w => sided_any 85 w (by decide) (by decide)
  unfold NamedAt
  go_enter Tryd.func55, Tryd.ntmps55
  go_wp2_with fail
  refine (hs _).mono ?_
  rintro e w1 ⟨rfl, rfl⟩
  go_wp2_with fail
  go_ret2
  exact ⟨rfl, (Below.refl _ _).alloc (Nat.le_refl _) _⟩

set_option maxRecDepth 100000 in
set_option maxHeartbeats 4000000 in
theorem named_c92 (w : World) : NamedAt 92 w := by
  have hs : ∀ w, Calls Tryd.prog 67 #[.int .u16 92] w fun e w' => e = .returned (.string ⟨#[97, 110, 100]⟩) ∧ w' = w := fun w => sided_any 92 w (by decide) (by decide)
  unfold NamedAt
  go_enter Tryd.func55, Tryd.ntmps55
  go_wp2_with fail
  refine (hs _).mono ?_
  rintro e w1 ⟨rfl, rfl⟩
  go_wp2_with fail
  go_ret2
  exact ⟨rfl, (Below.refl _ _)⟩

set_option maxRecDepth 100000 in
set_option maxHeartbeats 4000000 in
theorem named_c93 (w : World) : NamedAt 93 w := by
  have hs : ∀ w, Calls Tryd.prog 67 #[.int .u16 93] w fun e w' => e = .returned (.string ⟨#[97, 110, 100]⟩) ∧ w' = w := fun w => sided_any 93 w (by decide) (by decide)
  unfold NamedAt
  go_enter Tryd.func55, Tryd.ntmps55
  go_wp2_with fail
  refine (hs _).mono ?_
  rintro e w1 ⟨rfl, rfl⟩
  go_wp2_with fail
  go_ret2
  exact ⟨rfl, (Below.refl _ _).alloc (Nat.le_refl _) _⟩
end Go.Proofs.YtceeinljakcdkaaDoor
