/-
  The reference's Bare.
-/
import Derived.Test.YtceeinljakcdkaaDoorForm
import Derived.Test.YtceeinljakcdkaaDoorNamedEnd
import Derived.Test.YtceeinljakcdkaaDoorRefCodes
import Derived.Test.YtceeinljakcdkaaDoorBlk
namespace Go.Proofs.YtceeinljakcdkaaDoor
open Go.RowKit

theorem ins_inf : (Tryd.prog.info? 32).map (·.size) = some 4 := by kernel_rfl
def insC (c a b k : Int) : Array Value := #[.int .u16 c, .int .u8 a, .int .u8 b, .int .u32 k]
theorem ins_one (c a b k : Int) : (insC c a b k).all (·.oneCell') = true := by simp [insC, Value.oneCell']
theorem ins_cells {w : World} {g : Nat} {c a b k : Int} (h : Blk w g (insC c a b k) 32) : w.cell? ⟨g, 0, none⟩ = some (.int .u16 c) ∧ w.cell? ⟨g, 1, none⟩ = some (.int .u8 a) ∧ w.cell? ⟨g, 2, none⟩ = some (.int .u8 b) ∧ w.cell? ⟨g, 3, none⟩ = some (.int .u32 k) :=
  ⟨h.cell 0, h.cell 1, h.cell 2, h.cell 3⟩

set_option maxHeartbeats 2000000 in
theorem refbare_any (c a b k : Int) (w : World) (hc : 0 ≤ c) :
    Calls Tryd.prog 35 #[insV c a b k] w fun e w' => e = .returned (insV c (bareJ c a) (bareJ c b) (bareK c k)) ∧ Below w.heap.size w w' := by
  have hF := fun w => refform_any c w hc
  rcases form_cases c with h | h | h | h | h | h | h | h
  all_goals
    have ev : insV c (bareJ c a) (bareJ c b) (bareK c k) = .agg (insC c (if formOf c = 5 ∨ formOf c = 6 ∨ formOf c = -1 then a else 0) (if formOf c = 5 ∨ formOf c = 6 ∨ formOf c = -1 then b else 0) (if formOf c = 0 ∨ formOf c = 6 then 0 else k)) := rfl
    rw [ev]
    clear ev
    rw [h] at hF ⊢
    simp
    unfold insV
    clear h
    go_enter Tryd.func35, Tryd.ntmps35
    go_wp2_with fail
    refine (hF _).mono ?_
    rintro e w1 ⟨rfl, b1⟩
    have k1 : Blk w1 w.heap.size (insC c a b k) 32 := ((Blk.new w (insC c a b k) 32).alloc _).below b1 (by simp; omega)
    have k2 : Blk w1 (w.heap.size + 1) (insC 0 0 0 0) 32 := (Blk.new_ _ (insC 0 0 0 0) 32 (by simp)).below b1 (by simp)
    have B1 : Below w.heap.size w w1 := ((((Below.refl _ w).alloc (Nat.le_refl _) _).alloc (by simp) _).trans (b1.mono (by simp; omega)))
    obtain ⟨x0, x1, x2, x3⟩ := ins_cells k1
    clear k1 b1
    go_wp2_with (first
      | (refine wpList_store_blk rfl 32 (.tmp 2) (.tmp 10) rfl (w.heap.size + 1) (insC 0 0 0 0) (insC c 0 0 0) 32 rfl rfl k2 rfl ins_inf (ins_one _ _ _ _) ?_; intro w9 hw9 hn9)
      | (refine wpList_store_blk rfl 32 (.tmp 2) (.tmp 20) rfl (w.heap.size + 1) (insC 0 0 0 0) (insC c 0 0 k) 32 rfl rfl k2 rfl ins_inf (ins_one _ _ _ _) ?_; intro w9 hw9 hn9)
      | (refine wpList_store_blk rfl 32 (.tmp 2) (.tmp 29) rfl (w.heap.size + 1) (insC 0 0 0 0) (insC c a b 0) 32 rfl rfl k2 rfl ins_inf (ins_one _ _ _ _) ?_; intro w9 hw9 hn9)
      | (refine wpList_store_blk rfl 32 (.tmp 2) (.tmp 30) rfl (w.heap.size + 1) (insC 0 0 0 0) (insC c a b k) 32 rfl rfl k2 rfl ins_inf (ins_one _ _ _ _) ?_; intro w9 hw9 hn9))
    refine bodyPost_ret (results_cell_row rfl _ _ (w.heap.size + 1) 32 _ (0, 0) _ rfl hw9.blk Tryd.underlying32 rfl ins_inf) rfl ?_
    exact ⟨rfl, B1.trans (hn9.below w.heap.size (by omega) B1.size)⟩
end Go.Proofs.YtceeinljakcdkaaDoor
