/-
  What Alu answers is as wide as its kind.
-/
import Derived.Test.YtpeofpilfpjjpaaGreatDoorVmA
namespace Go.Proofs.YtpeofpilfpjjpaaGreatDoor
open Go.RowKit

theorem wrap_U32 (z : Int) : U32 (IntKind.u32.wrap z) := by rw [IntKind.wrap_u32]; unfold U32; omega
theorem div_U32 {a b : Int} (ha : U32 a) (hb : 0 < b) : U32 (a / b) := by
  unfold U32 at *
  have h1 := Int.ediv_nonneg ha.1 (Int.le_of_lt hb)
  have h2 := Int.ediv_le_self b ha.1
  omega
theorem pow_pos' (n : Nat) : (0 : Int) < 2 ^ n := Int.pow_pos (by omega)
theorem al_U32 {op a b v : Int} (ha : U32 a) (hb : U32 b) (h : alI op a b = some v) : U32 v := by
  unfold alI at h
  have hb0 : ∀ x, (if b = 0 then none else some (a / b)) = some x → U32 x := fun x hx => by
    by_cases h0 : b = 0
    · rw [if_pos h0] at hx; cases hx
    · rw [if_neg h0] at hx; injection hx with hx; subst hx
      exact div_U32 ha (by unfold U32 at hb; omega)
  have hw : ∀ {z x : Int}, some (IntKind.u32.wrap z) = some x → U32 x := fun hx => by injection hx with hx; subst hx; exact wrap_U32 _
  have hbt : ∀ {o : BinOp} {x : Int}, some (bits o .u32 a b) = some x → U32 x := fun hx => by injection hx with hx; subst hx; exact wrap_U32 _
  have hs : ∀ {x : Int}, some (a / 2 ^ (min b.toNat 32)) = some x → U32 x := fun hx => by injection hx with hx; subst hx; exact div_U32 ha (pow_pos' _)
  repeat' split at h
  all_goals first | exact hw h | exact hb0 _ h | exact hbt h | exact hs h | (injection h with h; subst h; exact div_U32 ha (by unfold U32 at hb; omega)) | cases h
end Go.Proofs.YtpeofpilfpjjpaaGreatDoor
