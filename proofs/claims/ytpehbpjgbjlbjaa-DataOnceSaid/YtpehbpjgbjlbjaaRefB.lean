/-
  The reference's Both: bytes, and others behind them.
-/
import Derived.Test.YtpehbpjgbjlbjaaApp
namespace Go.Proofs.Ytpehbpjgbjlbjaa
open Go.RowKit

set_option maxHeartbeats 1000000 in
theorem both_any (A A' : Option Addr) (n c m c' : Nat) (l l' : List Int) (w : World) (hr : Rd w w.heap.size A n l) (hr' : Rd w w.heap.size A' m l') (hn : n ≤ 300000) (hm : m ≤ 300000) :
    Calls Try.prog 26 #[.slice A n c, .slice A' m c'] w fun e w' =>
      ∃ A2 c2, e = .returned (.slice A2 (n + m) c2) ∧ Ow w' w.heap.size A2 (n + m) c2 (l ++ l') ∧ Below w.heap.size w w' := by
  go_enter Try.func26, Try.ntmps26
  go_wp2_with (first
    | (at_builtin; refine wpList_append_bytes rfl (.tmp 5) (.tmp 6) rfl w.heap.size _ 0 0 _ rfl (Ow.empty w w.heap.size (Nat.le_refl _)) w.heap.size A n c l rfl (hr.alloc_ (Nat.le_refl _) _) (by omega) (by simp) ?_; intro Aa ca wa oa ba; have ba' : Below w.heap.size w wa := ((Below.refl _ _).alloc (Nat.le_refl _) _).trans ba; simp only [Nat.zero_add, List.nil_append] at oa)
    | (at_builtin; refine wpList_append_bytes rfl (.tmp 7) (.tmp 8) rfl w.heap.size Aa n ca l rfl oa w.heap.size A' m c' l' rfl (hr'.below ba') (by omega) ba'.size ?_; intro Ab cb wb ob bb))
  go_ret
  exact ⟨Ab, cb, rfl, ob, ba'.trans bb⟩
end Go.Proofs.Ytpehbpjgbjlbjaa
