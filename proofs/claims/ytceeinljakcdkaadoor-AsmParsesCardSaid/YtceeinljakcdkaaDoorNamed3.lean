/-
  The reference's answers on codes: named, some of its cases.
-/
import Derived.Test.YtceeinljakcdkaaDoorNamed
namespace Go.Proofs.YtceeinljakcdkaaDoor
open Go.RowKit

set_option maxRecDepth 100000 in
set_option maxHeartbeats 4000000 in
theorem named_c100 (w : World) : NamedAt 100 w := by
  have hs : ∀ w, Calls Tryd.prog 67 #[.int .u16 100] w fun e w' => e = .returned (.string ⟨#[108, 115, 104]⟩) ∧ w' = w := fun w => sided_any 100 w (by decide) (by decide)
  unfold NamedAt
  go_enter Tryd.func55, Tryd.ntmps55
  go_wp2_with fail
  refine (hs _).mono ?_
  rintro e w1 ⟨rfl, rfl⟩
  go_wp2_with fail
  go_ret2
  exact ⟨rfl, (Below.refl _ _)⟩

set_option maxRecDepth 100000 in
set_option maxHeartbeats 4000000 in
theorem named_c101 (w : World) : NamedAt 101 w := by
  have hs : ∀ w, Calls Tryd.prog 67 #[.int .u16 101] w fun e w' => e = .returned (.string ⟨#[108, 115, 104]⟩) ∧ w' = w := fun w => sided_any 101 w (by decide) (by decide)
  unfold NamedAt
  go_enter Tryd.func55, Tryd.ntmps55
  go_wp2_with fail
  refine (hs _).mono ?_
  rintro e w1 ⟨rfl, rfl⟩
  go_wp2_with fail
  go_ret2
  exact ⟨rfl, (Below.refl _ _).alloc (Nat.le_refl _) _⟩

set_option maxRecDepth 100000 in
set_option maxHeartbeats 4000000 in
theorem named_c108 (w : World) : NamedAt 108 w := by
  have hs : ∀ w, Calls Tryd.prog 67 #[.int .u16 108] w fun e w' => e = .returned (.string ⟨#[108, 115, 104]⟩) ∧ w' = w := fun w => sided_any 108 w (by decide) (by decide)
  unfold NamedAt
  go_enter Tryd.func55, Tryd.ntmps55
  go_wp2_with fail
  refine (hs _).mono ?_
  rintro e w1 ⟨rfl, rfl⟩
  go_wp2_with fail
  go_ret2
  exact ⟨rfl, (Below.refl _ _)⟩

set_option maxRecDepth 100000 in
set_option maxHeartbeats 4000000 in
theorem named_c109 (w : World) : NamedAt 109 w := by
  have hs : ∀ w, Calls Tryd.prog 67 #[.int .u16 109] w fun e w' => e = .returned (.string ⟨#[108, 115, 104]⟩) ∧ w' = w := fun w => sided_any 109 w (by decide) (by decide)
  unfold NamedAt
  go_enter Tryd.func55, Tryd.ntmps55
  go_wp2_with fail
  refine (hs _).mono ?_
  rintro e w1 ⟨rfl, rfl⟩
  go_wp2_with fail
  go_ret2
  exact ⟨rfl, (Below.refl _ _).alloc (Nat.le_refl _) _⟩

set_option maxRecDepth 100000 in
set_option maxHeartbeats 4000000 in
theorem named_c116 (w : World) : NamedAt 116 w := by
  have hs : ∀ w, Calls Tryd.prog 67 #[.int .u16 116] w fun e w' => e = .returned (.string ⟨#[114, 115, 104]⟩) ∧ w' = w := fun w => sided_any 116 w (by decide) (by decide)
  unfold NamedAt
  go_enter Tryd.func55, Tryd.ntmps55
  go_wp2_with fail
  refine (hs _).mono ?_
  rintro e w1 ⟨rfl, rfl⟩
  go_wp2_with fail
  go_ret2
  exact ⟨rfl, (Below.refl _ _)⟩

set_option maxRecDepth 100000 in
set_option maxHeartbeats 4000000 in
theorem named_c117 (w : World) : NamedAt 117 w := by
  have hs : ∀ w, Calls Tryd.prog 67 #[.int .u16 117] w fun e w' => e = .returned (.string ⟨#[114, 115, 104]⟩) ∧ w' = w := fun w => sided_any 117 w (by decide) (by decide)
  unfold NamedAt
  go_enter Tryd.func55, Tryd.ntmps55
  go_wp2_with fail
  refine (hs _).mono ?_
  rintro e w1 ⟨rfl, rfl⟩
  go_wp2_with fail
  go_ret2
  exact ⟨rfl, (Below.refl _ _).alloc (Nat.le_refl _) _⟩

set_option maxRecDepth 100000 in
set_option maxHeartbeats 4000000 in
theorem named_c124 (w : World) : NamedAt 124 w := by
  have hs : ∀ w, Calls Tryd.prog 67 #[.int .u16 124] w fun e w' => e = .returned (.string ⟨#[114, 115, 104]⟩) ∧ w' = w := fun w => sided_any 124 w (by decide) (by decide)
  unfold NamedAt
  go_enter Tryd.func55, Tryd.ntmps55
  go_wp2_with fail
  refine (hs _).mono ?_
  rintro e w1 ⟨rfl, rfl⟩
  go_wp2_with fail
  go_ret2
  exact ⟨rfl, (Below.refl _ _)⟩

set_option maxRecDepth 100000 in
set_option maxHeartbeats 4000000 in
theorem named_c125 (w : World) : NamedAt 125 w := by
  have hs : ∀ w, Calls Tryd.prog 67 #[.int .u16 125] w fun e w' => e = .returned (.string ⟨#[114, 115, 104]⟩) ∧ w' = w := fun w => sided_any 125 w (by decide) (by decide)
  unfold NamedAt
  go_enter Tryd.func55, Tryd.ntmps55
  go_wp2_with fail
  refine (hs _).mono ?_
  rintro e w1 ⟨rfl, rfl⟩
  go_wp2_with fail
  go_ret2
  exact ⟨rfl, (Below.refl _ _).alloc (Nat.le_refl _) _⟩

set_option maxRecDepth 100000 in
set_option maxHeartbeats 4000000 in
theorem named_c133 (w : World) : NamedAt 133 w := by
  have hs : ∀ w, Calls Tryd.prog 67 #[.int .u16 133] w fun e w' => e = .returned (.string ⟨#[]⟩) ∧ w' = w := fun w => sided_any 133 w (by decide) (by decide)
  unfold NamedAt
  go_enter Tryd.func55, Tryd.ntmps55
  go_wp2_with fail
  refine (hs _).mono ?_
  rintro e w1 ⟨rfl, rfl⟩
  go_wp2_with fail
  go_ret2
  exact ⟨rfl, (Below.refl _ _).alloc (Nat.le_refl _) _⟩

set_option maxRecDepth 100000 in
set_option maxHeartbeats 4000000 in
theorem named_c140 (w : World) : NamedAt 140 w := by
  have hs : ∀ w, Calls Tryd.prog 67 #[.int .u16 140] w fun e w' => e = .returned (.string ⟨#[]⟩) ∧ w' = w := fun w => sided_any 140 w (by decide) (by decide)
  unfold NamedAt
  go_enter Tryd.func55, Tryd.ntmps55
  go_wp2_with fail
  refine (hs _).mono ?_
  rintro e w1 ⟨rfl, rfl⟩
  go_wp2_with fail
  go_ret2
  exact ⟨rfl, (Below.refl _ _).alloc (Nat.le_refl _) _⟩

set_option maxRecDepth 100000 in
set_option maxHeartbeats 4000000 in
theorem named_c141 (w : World) : NamedAt 141 w := by
  have hs : ∀ w, Calls Tryd.prog 67 #[.int .u16 141] w fun e w' => e = .returned (.string ⟨#[]⟩) ∧ w' = w := fun w => sided_any 141 w (by decide) (by decide)
  unfold NamedAt
  go_enter Tryd.func55, Tryd.ntmps55
  go_wp2_with fail
  refine (hs _).mono ?_
  rintro e w1 ⟨rfl, rfl⟩
  go_wp2_with fail
  go_ret2
  exact ⟨rfl, (Below.refl _ _).alloc (Nat.le_refl _) _⟩

set_option maxRecDepth 100000 in
set_option maxHeartbeats 4000000 in
theorem named_c148 (w : World) : NamedAt 148 w := by
  have hs : ∀ w, Calls Tryd.prog 67 #[.int .u16 148] w fun e w' => e = .returned (.string ⟨#[]⟩) ∧ w' = w := fun w => sided_any 148 w (by decide) (by decide)
  unfold NamedAt
  go_enter Tryd.func55, Tryd.ntmps55
  go_wp2_with fail
  refine (hs _).mono ?_
  rintro e w1 ⟨rfl, rfl⟩
  go_wp2_with fail
  go_ret2
  exact ⟨rfl, (Below.refl _ _).alloc (Nat.le_refl _) _⟩

set_option maxRecDepth 100000 in
set_option maxHeartbeats 4000000 in
theorem named_c149 (w : World) : NamedAt 149 w := by
  have hs : ∀ w, Calls Tryd.prog 67 #[.int .u16 149] w fun e w' => e = .returned (.string ⟨#[]⟩) ∧ w' = w := fun w => sided_any 149 w (by decide) (by decide)
  unfold NamedAt
  go_enter Tryd.func55, Tryd.ntmps55
  go_wp2_with fail
  refine (hs _).mono ?_
  rintro e w1 ⟨rfl, rfl⟩
  go_wp2_with fail
  go_ret2
  exact ⟨rfl, (Below.refl _ _).alloc (Nat.le_refl _) _⟩

set_option maxRecDepth 100000 in
set_option maxHeartbeats 4000000 in
theorem named_c156 (w : World) : NamedAt 156 w := by
  have hs : ∀ w, Calls Tryd.prog 67 #[.int .u16 156] w fun e w' => e = .returned (.string ⟨#[]⟩) ∧ w' = w := fun w => sided_any 156 w (by decide) (by decide)
  unfold NamedAt
  go_enter Tryd.func55, Tryd.ntmps55
  go_wp2_with fail
  refine (hs _).mono ?_
  rintro e w1 ⟨rfl, rfl⟩
  go_wp2_with fail
  go_ret2
  exact ⟨rfl, (Below.refl _ _).alloc (Nat.le_refl _) _⟩

set_option maxRecDepth 100000 in
set_option maxHeartbeats 4000000 in
theorem named_c157 (w : World) : NamedAt 157 w := by
  have hs : ∀ w, Calls Tryd.prog 67 #[.int .u16 157] w fun e w' => e = .returned (.string ⟨#[]⟩) ∧ w' = w := fun w => sided_any 157 w (by decide) (by decide)
  unfold NamedAt
  go_enter Tryd.func55, Tryd.ntmps55
  go_wp2_with fail
  refine (hs _).mono ?_
  rintro e w1 ⟨rfl, rfl⟩
  go_wp2_with fail
  go_ret2
  exact ⟨rfl, (Below.refl _ _).alloc (Nat.le_refl _) _⟩

set_option maxRecDepth 100000 in
set_option maxHeartbeats 4000000 in
theorem named_c164 (w : World) : NamedAt 164 w := by
  have hs : ∀ w, Calls Tryd.prog 67 #[.int .u16 164] w fun e w' => e = .returned (.string ⟨#[120, 111, 114]⟩) ∧ w' = w := fun w => sided_any 164 w (by decide) (by decide)
  unfold NamedAt
  go_enter Tryd.func55, Tryd.ntmps55
  go_wp2_with fail
  refine (hs _).mono ?_
  rintro e w1 ⟨rfl, rfl⟩
  go_wp2_with fail
  go_ret2
  exact ⟨rfl, (Below.refl _ _)⟩

set_option maxRecDepth 100000 in
set_option maxHeartbeats 4000000 in
theorem named_c165 (w : World) : NamedAt 165 w := by
  have hs : ∀ w, Calls Tryd.prog 67 #[.int .u16 165] w fun e w' => e = .returned (.string ⟨#[120, 111, 114]⟩) ∧ w' = w := fun w => sided_any 165 w (by decide) (by decide)
  unfold NamedAt
  go_enter Tryd.func55, Tryd.ntmps55
  go_wp2_with fail
  refine (hs _).mono ?_
  rintro e w1 ⟨rfl, rfl⟩
  go_wp2_with fail
  go_ret2
  exact ⟨rfl, (Below.refl _ _).alloc (Nat.le_refl _) _⟩

set_option maxRecDepth 100000 in
set_option maxHeartbeats 4000000 in
theorem named_c172 (w : World) : NamedAt 172 w := by
  have hs : ∀ w, Calls Tryd.prog 67 #[.int .u16 172] w fun e w' => e = .returned (.string ⟨#[120, 111, 114]⟩) ∧ w' = w := fun w => sided_any 172 w (by decide) (by decide)
  unfold NamedAt
  go_enter Tryd.func55, Tryd.ntmps55
  go_wp2_with fail
  refine (hs _).mono ?_
  rintro e w1 ⟨rfl, rfl⟩
  go_wp2_with fail
  go_ret2
  exact ⟨rfl, (Below.refl _ _)⟩

set_option maxRecDepth 100000 in
set_option maxHeartbeats 4000000 in
theorem named_c173 (w : World) : NamedAt 173 w := by
  have hs : ∀ w, Calls Tryd.prog 67 #[.int .u16 173] w fun e w' => e = .returned (.string ⟨#[120, 111, 114]⟩) ∧ w' = w := fun w => sided_any 173 w (by decide) (by decide)
  unfold NamedAt
  go_enter Tryd.func55, Tryd.ntmps55
  go_wp2_with fail
  refine (hs _).mono ?_
  rintro e w1 ⟨rfl, rfl⟩
  go_wp2_with fail
  go_ret2
  exact ⟨rfl, (Below.refl _ _).alloc (Nat.le_refl _) _⟩
end Go.Proofs.YtceeinljakcdkaaDoor
