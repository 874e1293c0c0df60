/-
  The reference's answers on codes: named, some of its cases.
-/
import Derived.Test.YtceeinljakcdkaaDoorNamed
namespace Go.Proofs.YtceeinljakcdkaaDoor
open Go.RowKit

set_option maxRecDepth 100000 in
set_option maxHeartbeats 4000000 in
theorem named_c180 (w : World) : NamedAt 180 w := by
  have hs : ∀ w, Calls Tryd.prog 67 #[.int .u16 180] w fun e w' => e = .returned (.string ⟨#[]⟩) ∧ w' = w := fun w => sided_any 180 w (by decide) (by decide)
  unfold NamedAt
  go_enter Tryd.func55, Tryd.ntmps55
  go_wp2_with fail
  refine (hs _).mono ?_
  rintro e w1 ⟨rfl, rfl⟩
  go_wp2_with fail
  go_ret2
  exact ⟨rfl, (Below.refl _ _).alloc (Nat.le_refl _) _⟩

set_option maxRecDepth 100000 in
set_option maxHeartbeats 4000000 in
theorem named_c181 (w : World) : NamedAt 181 w := by
  have hs : ∀ w, Calls Tryd.prog 67 #[.int .u16 181] w fun e w' => e = .returned (.string ⟨#[]⟩) ∧ w' = w := fun w => sided_any 181 w (by decide) (by decide)
  unfold NamedAt
  go_enter Tryd.func55, Tryd.ntmps55
  go_wp2_with fail
  refine (hs _).mono ?_
  rintro e w1 ⟨rfl, rfl⟩
  go_wp2_with fail
  go_ret2
  exact ⟨rfl, (Below.refl _ _).alloc (Nat.le_refl _) _⟩

set_option maxRecDepth 100000 in
set_option maxHeartbeats 4000000 in
theorem named_c188 (w : World) : NamedAt 188 w := by
  have hs : ∀ w, Calls Tryd.prog 67 #[.int .u16 188] w fun e w' => e = .returned (.string ⟨#[]⟩) ∧ w' = w := fun w => sided_any 188 w (by decide) (by decide)
  unfold NamedAt
  go_enter Tryd.func55, Tryd.ntmps55
  go_wp2_with fail
  refine (hs _).mono ?_
  rintro e w1 ⟨rfl, rfl⟩
  go_wp2_with fail
  go_ret2
  exact ⟨rfl, (Below.refl _ _).alloc (Nat.le_refl _) _⟩

set_option maxRecDepth 100000 in
set_option maxHeartbeats 4000000 in
theorem named_c189 (w : World) : NamedAt 189 w := by
  have hs : ∀ w, Calls Tryd.prog 67 #[.int .u16 189] w fun e w' => e = .returned (.string ⟨#[]⟩) ∧ w' = w := fun w => sided_any 189 w (by decide) (by decide)
  unfold NamedAt
  go_enter Tryd.func55, Tryd.ntmps55
  go_wp2_with fail
  refine (hs _).mono ?_
  rintro e w1 ⟨rfl, rfl⟩
  go_wp2_with fail
  go_ret2
  exact ⟨rfl, (Below.refl _ _).alloc (Nat.le_refl _) _⟩

set_option maxRecDepth 100000 in
set_option maxHeartbeats 4000000 in
theorem named_c196 (w : World) : NamedAt 196 w := by
  have hs : ∀ w, Calls Tryd.prog 67 #[.int .u16 196] w fun e w' => e = .returned (.string ⟨#[]⟩) ∧ w' = w := fun w => sided_any 196 w (by decide) (by decide)
  unfold NamedAt
  go_enter Tryd.func55, Tryd.ntmps55
  go_wp2_with fail
  refine (hs _).mono ?_
  rintro e w1 ⟨rfl, rfl⟩
  go_wp2_with fail
  go_ret2
  exact ⟨rfl, (Below.refl _ _).alloc (Nat.le_refl _) _⟩

set_option maxRecDepth 100000 in
set_option maxHeartbeats 4000000 in
theorem named_c197 (w : World) : NamedAt 197 w := by
  have hs : ∀ w, Calls Tryd.prog 67 #[.int .u16 197] w fun e w' => e = .returned (.string ⟨#[]⟩) ∧ w' = w := fun w => sided_any 197 w (by decide) (by decide)
  unfold NamedAt
  go_enter Tryd.func55, Tryd.ntmps55
  go_wp2_with fail
  refine (hs _).mono ?_
  rintro e w1 ⟨rfl, rfl⟩
  go_wp2_with fail
  go_ret2
  exact ⟨rfl, (Below.refl _ _).alloc (Nat.le_refl _) _⟩

set_option maxRecDepth 100000 in
set_option maxHeartbeats 4000000 in
theorem named_c204 (w : World) : NamedAt 204 w := by
  have hs : ∀ w, Calls Tryd.prog 67 #[.int .u16 204] w fun e w' => e = .returned (.string ⟨#[]⟩) ∧ w' = w := fun w => sided_any 204 w (by decide) (by decide)
  unfold NamedAt
  go_enter Tryd.func55, Tryd.ntmps55
  go_wp2_with fail
  refine (hs _).mono ?_
  rintro e w1 ⟨rfl, rfl⟩
  go_wp2_with fail
  go_ret2
  exact ⟨rfl, (Below.refl _ _).alloc (Nat.le_refl _) _⟩

set_option maxRecDepth 100000 in
set_option maxHeartbeats 4000000 in
theorem named_c205 (w : World) : NamedAt 205 w := by
  have hs : ∀ w, Calls Tryd.prog 67 #[.int .u16 205] w fun e w' => e = .returned (.string ⟨#[]⟩) ∧ w' = w := fun w => sided_any 205 w (by decide) (by decide)
  unfold NamedAt
  go_enter Tryd.func55, Tryd.ntmps55
  go_wp2_with fail
  refine (hs _).mono ?_
  rintro e w1 ⟨rfl, rfl⟩
  go_wp2_with fail
  go_ret2
  exact ⟨rfl, (Below.refl _ _).alloc (Nat.le_refl _) _⟩

set_option maxRecDepth 100000 in
set_option maxHeartbeats 4000000 in
theorem named_c212 (w : World) : NamedAt 212 w := by
  have hs : ∀ w, Calls Tryd.prog 67 #[.int .u16 212] w fun e w' => e = .returned (.string ⟨#[]⟩) ∧ w' = w := fun w => sided_any 212 w (by decide) (by decide)
  unfold NamedAt
  go_enter Tryd.func55, Tryd.ntmps55
  go_wp2_with fail
  refine (hs _).mono ?_
  rintro e w1 ⟨rfl, rfl⟩
  go_wp2_with fail
  go_ret2
  exact ⟨rfl, (Below.refl _ _).alloc (Nat.le_refl _) _⟩

set_option maxRecDepth 100000 in
set_option maxHeartbeats 4000000 in
theorem named_c213 (w : World) : NamedAt 213 w := by
  have hs : ∀ w, Calls Tryd.prog 67 #[.int .u16 213] w fun e w' => e = .returned (.string ⟨#[]⟩) ∧ w' = w := fun w => sided_any 213 w (by decide) (by decide)
  unfold NamedAt
  go_enter Tryd.func55, Tryd.ntmps55
  go_wp2_with fail
  refine (hs _).mono ?_
  rintro e w1 ⟨rfl, rfl⟩
  go_wp2_with fail
  go_ret2
  exact ⟨rfl, (Below.refl _ _).alloc (Nat.le_refl _) _⟩

set_option maxRecDepth 100000 in
set_option maxHeartbeats 4000000 in
theorem named_c220 (w : World) : NamedAt 220 w := by
  have hs : ∀ w, Calls Tryd.prog 67 #[.int .u16 220] w fun e w' => e = .returned (.string ⟨#[]⟩) ∧ w' = w := fun w => sided_any 220 w (by decide) (by decide)
  unfold NamedAt
  go_enter Tryd.func55, Tryd.ntmps55
  go_wp2_with fail
  refine (hs _).mono ?_
  rintro e w1 ⟨rfl, rfl⟩
  go_wp2_with fail
  go_ret2
  exact ⟨rfl, (Below.refl _ _).alloc (Nat.le_refl _) _⟩

set_option maxRecDepth 100000 in
set_option maxHeartbeats 4000000 in
theorem named_c221 (w : World) : NamedAt 221 w := by
  have hs : ∀ w, Calls Tryd.prog 67 #[.int .u16 221] w fun e w' => e = .returned (.string ⟨#[]⟩) ∧ w' = w := fun w => sided_any 221 w (by decide) (by decide)
  unfold NamedAt
  go_enter Tryd.func55, Tryd.ntmps55
  go_wp2_with fail
  refine (hs _).mono ?_
  rintro e w1 ⟨rfl, rfl⟩
  go_wp2_with fail
  go_ret2
  exact ⟨rfl, (Below.refl _ _).alloc (Nat.le_refl _) _⟩

set_option maxRecDepth 100000 in
set_option maxHeartbeats 4000000 in
theorem named_c228 (w : World) : NamedAt 228 w := by
  have hs : ∀ w, Calls Tryd.prog 67 #[.int .u16 228] w fun e w' => e = .returned (.string ⟨#[]⟩) ∧ w' = w := fun w => sided_any 228 w (by decide) (by decide)
  unfold NamedAt
  go_enter Tryd.func55, Tryd.ntmps55
  go_wp2_with fail
  refine (hs _).mono ?_
  rintro e w1 ⟨rfl, rfl⟩
  go_wp2_with fail
  go_ret2
  exact ⟨rfl, (Below.refl _ _).alloc (Nat.le_refl _) _⟩

set_option maxRecDepth 100000 in
set_option maxHeartbeats 4000000 in
theorem named_c229 (w : World) : NamedAt 229 w := by
  have hs : ∀ w, Calls Tryd.prog 67 #[.int .u16 229] w fun e w' => e = .returned (.string ⟨#[]⟩) ∧ w' = w := fun w => sided_any 229 w (by decide) (by decide)
  unfold NamedAt
  go_enter Tryd.func55, Tryd.ntmps55
  go_wp2_with fail
  refine (hs _).mono ?_
  rintro e w1 ⟨rfl, rfl⟩
  go_wp2_with fail
  go_ret2
  exact ⟨rfl, (Below.refl _ _).alloc (Nat.le_refl _) _⟩

set_option maxRecDepth 100000 in
set_option maxHeartbeats 4000000 in
theorem named_c236 (w : World) : NamedAt 236 w := by
  have hs : ∀ w, Calls Tryd.prog 67 #[.int .u16 236] w fun e w' => e = .returned (.string ⟨#[]⟩) ∧ w' = w := fun w => sided_any 236 w (by decide) (by decide)
  unfold NamedAt
  go_enter Tryd.func55, Tryd.ntmps55
  go_wp2_with fail
  refine (hs _).mono ?_
  rintro e w1 ⟨rfl, rfl⟩
  go_wp2_with fail
  go_ret2
  exact ⟨rfl, (Below.refl _ _).alloc (Nat.le_refl _) _⟩

set_option maxRecDepth 100000 in
set_option maxHeartbeats 4000000 in
theorem named_c237 (w : World) : NamedAt 237 w := by
  have hs : ∀ w, Calls Tryd.prog 67 #[.int .u16 237] w fun e w' => e = .returned (.string ⟨#[]⟩) ∧ w' = w := fun w => sided_any 237 w (by decide) (by decide)
  unfold NamedAt
  go_enter Tryd.func55, Tryd.ntmps55
  go_wp2_with fail
  refine (hs _).mono ?_
  rintro e w1 ⟨rfl, rfl⟩
  go_wp2_with fail
  go_ret2
  exact ⟨rfl, (Below.refl _ _).alloc (Nat.le_refl _) _⟩

set_option maxRecDepth 100000 in
set_option maxHeartbeats 4000000 in
theorem named_c244 (w : World) : NamedAt 244 w := by
  have hs : ∀ w, Calls Tryd.prog 67 #[.int .u16 244] w fun e w' => e = .returned (.string ⟨#[]⟩) ∧ w' = w := fun w => sided_any 244 w (by decide) (by decide)
  unfold NamedAt
  go_enter Tryd.func55, Tryd.ntmps55
  go_wp2_with fail
  refine (hs _).mono ?_
  rintro e w1 ⟨rfl, rfl⟩
  go_wp2_with fail
  go_ret2
  exact ⟨rfl, (Below.refl _ _).alloc (Nat.le_refl _) _⟩

set_option maxRecDepth 100000 in
set_option maxHeartbeats 4000000 in
theorem named_c245 (w : World) : NamedAt 245 w := by
  have hs : ∀ w, Calls Tryd.prog 67 #[.int .u16 245] w fun e w' => e = .returned (.string ⟨#[]⟩) ∧ w' = w := fun w => sided_any 245 w (by decide) (by decide)
  unfold NamedAt
  go_enter Tryd.func55, Tryd.ntmps55
  go_wp2_with fail
  refine (hs _).mono ?_
  rintro e w1 ⟨rfl, rfl⟩
  go_wp2_with fail
  go_ret2
  exact ⟨rfl, (Below.refl _ _).alloc (Nat.le_refl _) _⟩

set_option maxRecDepth 100000 in
set_option maxHeartbeats 4000000 in
theorem named_c252 (w : World) : NamedAt 252 w := by
  have hs : ∀ w, Calls Tryd.prog 67 #[.int .u16 252] w fun e w' => e = .returned (.string ⟨#[]⟩) ∧ w' = w := fun w => sided_any 252 w (by decide) (by decide)
  unfold NamedAt
  go_enter Tryd.func55, Tryd.ntmps55
  go_wp2_with fail
  refine (hs _).mono ?_
  rintro e w1 ⟨rfl, rfl⟩
  go_wp2_with fail
  go_ret2
  exact ⟨rfl, (Below.refl _ _).alloc (Nat.le_refl _) _⟩
end Go.Proofs.YtceeinljakcdkaaDoor
