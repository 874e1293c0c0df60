/-
  The reference's Low: the bytes of a number.
-/
import Derived.Test.YtndmlbepjcagiaaDoorBuilt
import Derived.Test.YtndmlbepjcagiaaDoorMath
import Derived.Lib.Hide
namespace Go.Proofs.YtndmlbepjcagiaaDoor
open Go.RowKit

set_option maxHeartbeats 1000000 in
theorem low_own (x : Int) (wd : Nat) (w : World) (h8 : wd ≤ 8) :
    Calls Tryd.prog 37 #[.int .u64 x, .int .i64 wd] w fun e w' =>
      ∃ A1 c1, e = .returned (.slice A1 wd c1) ∧ Ow w' w.heap.size A1 wd c1 (low x wd) ∧ Below w.heap.size w w' := by
  go_enter Tryd.func37, Tryd.ntmps37
  go_wp2_with fail
  go_loopw [5, 6] (fun v i wr => ∃ (k : Nat) (A1 : Option Addr) (c1 : Nat), k ≤ wd ∧ i = .int .i64 k ∧ v = .slice A1 k c1 ∧ Ow wr w.heap.size A1 k c1 (low x k) ∧ Below w.heap.size w wr) (fun _ i _ => wd - (intOf i).toNat)
  case atStart => exact ⟨0, none, 0, Nat.zero_le _, rfl, rfl, Ow.nil _ _, Below.refl _ _⟩
  case round =>
    obtain ⟨k, A1, c1, hk, rfl, rfl, hown, hbr⟩ := hrel
    by_cases hlt : k < wd
    · have hl := Lib.hid (low_succ x k)
      obtain ⟨p0, p1⟩ := byt_bd x k
      unfold byt at p0 p1
      go_wp2_with (first
        | (at_builtin; refine wpList_append_bytes rfl (.tmp 12) (.tmp 18) rfl w.heap.size A1 k c1 _ rfl (hown.alloc _) (wr.heap.size + 1) _ 1 1 [x / 2 ^ (8 * k) % 256] rfl (built_one wr _ p0 p1) (by omega) (by have := hbr.size; simp; omega) ?_; intro A2 c2 w2 hown2 hb2))
      go_roundw
      case rel =>
        have e : low x k ++ [x / 2 ^ (8 * k) % 256] = low x (k + 1) := hl.out.symm
        rw [e] at hown2
        exact ⟨k + 1, A2, c2, by omega, by go_num, rfl, hown2, (hbr.alloc hbr.size _).trans hb2⟩
      case measure => simp [intOf]; omega
    · go_wp2
      go_ret
      obtain rfl : k = wd := by omega
      exact ⟨A1, c1, rfl, hown, hbr⟩
theorem low_any (x : Int) (wd : Nat) (w : World) (h8 : wd ≤ 8) :
    Calls Tryd.prog 37 #[.int .u64 x, .int .i64 wd] w fun e w' =>
      ∃ A1 c1, e = .returned (.slice A1 wd c1) ∧ Rd w' w'.heap.size A1 wd (low x wd) ∧ Below w.heap.size w w' :=
  (low_own x wd w h8).mono fun _ _ ⟨A1, c1, h1, h2, h3⟩ => ⟨A1, c1, h1, h2.rd, h3⟩
theorem low2_any (x : Int) (w : World) :
    Calls Tryd.prog 37 #[.int .u64 x, .int .i64 2] w fun e w' =>
      ∃ A1 c1, e = .returned (.slice A1 2 c1) ∧ Rd w' w'.heap.size A1 2 (low x 2) ∧ Below w.heap.size w w' := low_any x 2 w (by omega)
theorem low4_any (x : Int) (w : World) :
    Calls Tryd.prog 37 #[.int .u64 x, .int .i64 4] w fun e w' =>
      ∃ A1 c1, e = .returned (.slice A1 4 c1) ∧ Rd w' w'.heap.size A1 4 (low x 4) ∧ Below w.heap.size w w' := low_any x 4 w (by omega)
theorem low8_any (x : Int) (w : World) :
    Calls Tryd.prog 37 #[.int .u64 x, .int .i64 8] w fun e w' =>
      ∃ A1 c1, e = .returned (.slice A1 8 c1) ∧ Rd w' w'.heap.size A1 8 (low x 8) ∧ Below w.heap.size w w' := low_any x 8 w (by omega)
theorem low2_own (x : Int) (w : World) :
    Calls Tryd.prog 37 #[.int .u64 x, .int .i64 2] w fun e w' =>
      ∃ A1 c1, e = .returned (.slice A1 2 c1) ∧ Ow w' w.heap.size A1 2 c1 (low x 2) ∧ Below w.heap.size w w' := low_own x 2 w (by omega)
end Go.Proofs.YtndmlbepjcagiaaDoor
