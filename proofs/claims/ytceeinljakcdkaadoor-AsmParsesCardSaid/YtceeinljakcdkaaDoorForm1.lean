/-
  insn.Form: the form of a code.
-/
import Derived.Test.YtceeinljakcdkaaDoorName1
namespace Go.Proofs.YtceeinljakcdkaaDoor
open Go.RowKit

/-- A code's form; -1. -/
def formOf (c : Int) : Int := match rowC c with | some i => kF i | none => -1
set_option maxHeartbeats 1000000 in
theorem form_any (c : Int) (w : World) (hK : Kinds w) : Calls Tryd.prog 24 #[.int .u16 c] w fun e w' => e = .returned (.int .i64 (formOf c)) ∧ w' = w := by
  go_enter Tryd.func24, Tryd.ntmps24
  go_wp2
  go_loopw [4] (fun i wr => ∃ k : Nat, k ≤ 41 ∧ i = .int .i64 k ∧ (∀ j ∈ List.range k, (kC j == c) = false) ∧ wr = w) (fun i _ => 41 - (intOf i).toNat)
  case atStart => exact ⟨0, Nat.zero_le _, rfl, by simp, rfl⟩
  case round =>
    obtain ⟨k, hk, rfl, hp, rfl⟩ := hrel
    by_cases hlt : k < 41
    · obtain ⟨c1, _, c3⟩ := hK k hlt
      have hlt' : (k : Int) < 41 := by omega
      cases hx : (kC k == c)
      · go_wp2
        go_roundw
        case rel => exact ⟨k + 1, by omega, by go_num, fun j hj => by rw [← range_push] at hj; exact (List.mem_append.1 hj).elim (hp j) (fun e => by simp at e; subst e; exact hx), trivial⟩
        case measure => simp [intOf]; omega
      · go_wp2
        have hf : formOf c = kF k := by simp only [formOf, rowC, find_first (k := k + 1) (by omega) (range_push k).symm hp hx]
        rw [hf]
        go_ret
        exact ⟨rfl, rfl⟩
    · obtain rfl : k = 41 := by omega
      go_wp2
      have hf : formOf c = -1 := by simp only [formOf, rowC, find_none hp]
      rw [hf]
      go_ret
      exact ⟨rfl, rfl⟩
theorem form_cases (c : Int) : formOf c = -1 ∨ formOf c = 0 ∨ formOf c = 1 ∨ formOf c = 2 ∨ formOf c = 3 ∨ formOf c = 4 ∨ formOf c = 5 ∨ formOf c = 6 := by
  unfold formOf
  cases h : rowC c with
  | none => exact .inl rfl
  | some i =>
    have hi := List.mem_of_find?_eq_some h
    have hall : ((List.range 41).all fun i => decide (0 ≤ kF i ∧ kF i ≤ 6)) = true := by decide
    have := List.all_eq_true.1 hall i hi
    simp only [decide_eq_true_eq] at this
    simp only
    omega
/-- An instruction. -/
def insV (c a b k : Int) : Value := .agg #[.int .u16 c, .int .u8 a, .int .u8 b, .int .u32 k]
end Go.Proofs.YtceeinljakcdkaaDoor
