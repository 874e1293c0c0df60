/-
  insn.Form, insn.Bare: the form of a code, an instruction without what does not count.
-/
import Derived.Test.YtceeinljakcdkaaDoorNames
import Derived.Test.YtceeinljakcdkaaDoorForm1
namespace Go.Proofs.YtceeinljakcdkaaDoor
open Go.RowKit

def bareJ (c a : Int) : Int := if formOf c = 5 ∨ formOf c = 6 ∨ formOf c = -1 then a else 0
def bareK (c k : Int) : Int := if formOf c = 0 ∨ formOf c = 6 then 0 else k

set_option maxHeartbeats 4000000 in
theorem bare_any (c a b k : Int) (w : World) (hK : Kinds w) :
    Calls Tryd.prog 19 #[insV c a b k] w fun e w' => e = .returned (insV c (bareJ c a) (bareJ c b) (bareK c k)) ∧ Below w.heap.size w w' := by
  have hF := fun w hK => form_any c w hK
  rcases form_cases c with h | h | h | h | h | h | h | h
  all_goals
    unfold insV bareJ bareK
    rw [h] at hF ⊢
    simp
    go_enter Tryd.func19, Tryd.ntmps19
    go_wp2_with (go_at_call 24; refine (hF _ ((hK.alloc _).alloc _)).mono ?_; rintro e w' ⟨rfl, rfl⟩)
    refine bodyPost_ret (v := insV c _ _ _) (by simp [results, Tryd.f19, go_sem, insV]; first | exact ⟨rfl, rfl, rfl⟩ | rfl) rfl ?_
    exact ⟨rfl, ((Below.refl _ _).alloc (Nat.le_refl _) _).alloc (by simp) _⟩
end Go.Proofs.YtceeinljakcdkaaDoor
