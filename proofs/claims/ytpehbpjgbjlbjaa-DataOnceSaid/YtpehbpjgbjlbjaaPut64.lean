/-
  octet.Put64.
-/
import Derived.Test.YtpehbpjgbjlbjaaPutA
namespace Go.Proofs.Ytpehbpjgbjlbjaa
open Go.RowKit

set_option maxHeartbeats 400000 in
theorem put64_any (A : Option Addr) (n c : Nat) (l : List Int) (x : Int) (w : World) (hr : Rd w w.heap.size A n l) (hn : n ≤ 1000000) :
    Calls Try.prog 25 #[.slice A n c, .int .u64 x] w fun e w' =>
      e = .returned (.slice (some ⟨w.heap.size, 0, none⟩) (n + 8) (n + 8)) ∧ Wh w' w.heap.size (l ++ low x 8) ∧ Below w.heap.size w w' := by
  go_enter Try.func25, Try.ntmps25
  go_wp2_with (go_at_call 34; refine (put_any A n c l x 8 (by omega) _ hr hn).mono ?_; rintro e w' ⟨rfl, h1, h2⟩)
  go_ret
  exact ⟨rfl, h1, h2⟩
end Go.Proofs.Ytpehbpjgbjlbjaa
