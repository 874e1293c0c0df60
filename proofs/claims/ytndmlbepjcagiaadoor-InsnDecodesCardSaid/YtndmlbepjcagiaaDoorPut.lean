/-
  octet.Put16, beside Put32.
-/
import Derived.Test.YtndmlbepjcagiaaDoorPut32
namespace Go.Proofs.YtndmlbepjcagiaaDoor
open Go.RowKit

set_option maxHeartbeats 400000 in
theorem put16_any (A : Option Addr) (n c : Nat) (l : List Int) (x : Int) (h0 : 0 ≤ x) (hx : x ≤ 65535) (w : World) (hr : Rd w w.heap.size A n l) (hn : n ≤ 1000000) :
    Calls Tryd.prog 35 #[.slice A n c, .int .u16 x] w fun e w' =>
      e = .returned (.slice (some ⟨w.heap.size, 0, none⟩) (n + 2) (n + 2)) ∧ Wh w' w.heap.size (l ++ low x 2) ∧ Below w.heap.size w w' := by
  go_enter Tryd.func35, Tryd.ntmps35
  go_wp2_with (go_at_call 48; refine (put_any A n c l x 2 (by omega) _ hr hn).mono ?_; rintro e w' ⟨rfl, h1, h2⟩)
  go_ret
  exact ⟨rfl, h1, h2⟩
end Go.Proofs.YtndmlbepjcagiaaDoor
