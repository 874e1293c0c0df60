/-
  The reference's lines: has an instruction one, and which.
-/
import Derived.Test.YtceeinljakcdkaaDoorAsmRf
import Derived.Test.YtceeinljakcdkaaDoorAsmLine
import Derived.Test.YtceeinljakcdkaaDoorNamedEnd
import Derived.Test.YtceeinljakcdkaaDoorRefBare
namespace Go.Proofs.YtceeinljakcdkaaDoor
open Go.RowKit

theorem name_form (c : Int) : (nameOf c).2 = decide (0 ≤ formOf c) := by
  unfold formOf nameOf
  cases hr : rowC c with
  | none => rfl
  | some i =>
    have hi : i < 41 := List.mem_range.1 (List.mem_of_find?_eq_some hr)
    have hall : ((List.range 41).all fun i => decide (0 ≤ kF i)) = true := by decide
    exact (List.all_eq_true.1 hall i (List.mem_range.2 hi)).symm
set_option maxRecDepth 100000 in
set_option maxHeartbeats 4000000 in
theorem right_any (q : Ins) (hq : insO q) (w : World) :
    Calls Tryd.prog 11 #[valI q] w fun e w' => e = .returned (.bool (hasL q)) ∧ Below w.heap.size w w' := by
  obtain ⟨o1, o2, o3, o4, o5, o6, o7, o8⟩ := hq
  have hform := fun w => refform_any q.1 w o1
  have hbare := fun w => refbare_any q.1 q.2.1 q.2.2.1 q.2.2.2 w o1
  have heql := run_eql_ins (bareI q) q
  have J0 : LI w (w.alloc (.cells (celI q).toArray 32)) q := ⟨Blk.new w _ _, (Below.refl _ w).alloc (Nat.le_refl _) _⟩
  have hH : hasL q = (decide (0 ≤ formOf q.1) && decide (bareI q = q)) := by rw [hasL, name_form]
  rw [hH]
  clear hH
  obtain ⟨c, a, b, k⟩ := q
  have F' := Lib.hid (calls_keep (P := Tryd.prog) (f := 34) (args := #[.int .u16 c]) (v := .int .i64 (formOf c)) (S := fun V => LI w V (c, a, b, k)) (fun V V' h hb => h.below hb) (fun V _ => hform V))
  have B' := Lib.hid (calls_keep (P := Tryd.prog) (f := 35) (args := #[valI (c, a, b, k)]) (v := valI (bareI (c, a, b, k))) (S := fun V => LI w V (c, a, b, k)) (fun V V' h hb => h.below hb) (fun V _ => hbare V))
  have hne : Nonempty (Sig (fun V => LI w V (c, a, b, k))) := ⟨⟨_, J0⟩⟩
  have hcell : ∀ s : Sig (fun V => LI w V (c, a, b, k)), s.V.cell? ⟨w.heap.size, 0, none⟩ = some (.int .u16 c) := fun s => s.h.ki.cell 0
  clear hform hbare o1 o2 o3 o4 o5 o6 o7 o8
  simp only [valI, insV, celI, bareI] at J0 heql F' B' ⊢
  by_cases hf : 0 ≤ formOf c
  · rw [decide_eq_true hf]
    go_enter Tryd.func11, Tryd.ntmps11
    go_wp2_with (
      refine region_class (S := fun V => LI w V (c, a, b, k)) (by kernel_rfl) (by kernel_rfl) (J0.below ((Below.refl _ _).drew)) ?_)
    repeat (first
      | (refine class_load (by rfl) 32 (.tmp 1) rfl w.heap.size rfl (celI (c, a, b, k)).toArray 32 _ (fun _ h => h.ki) Tryd.underlying32 rfl insn_size ?_; simp only [celI, Act.put, List.setIfInBounds_toArray, List.set_cons_zero, List.set_cons_succ])
      | go_big_quiet_step (first | (go_at_call 34; exact class_call _ F'.out) | (go_at_call 35; exact class_call _ B'.out)))
    refine wpQuiet_nil ?_
    rintro _ ⟨⟨V7, J7⟩, rfl⟩
    try dsimp only
    have hv : (decide (bareJ c a = a) && (decide (bareJ c b = b) && decide (bareK c k = k))) = decide ((c, bareJ c a, bareJ c b, bareK c k) = (c, a, b, k)) := by
      rw [Bool.eq_iff_iff]
      simp
    rw [hv]
    go_wp2
    go_ret
    exact ⟨by simp, J7.old⟩
  · rw [decide_eq_false hf]
    have hf2 : formOf c = -1 := by rcases form_cases c with h | h | h | h | h | h | h | h <;> omega
    rw [hf2] at F'
    go_enter Tryd.func11, Tryd.ntmps11
    go_wp2_with (
      refine region_class (S := fun V => LI w V (c, a, b, k)) (by kernel_rfl) (by kernel_rfl) (J0.below ((Below.refl _ _).drew)) ?_)
    repeat (first
      | go_big_quiet_step (first | (go_at_call 34; exact class_call _ F'.out) | (go_at_call 35; exact class_call _ B'.out)))
    refine wpQuiet_nil ?_
    rintro ⟨V7, J7⟩
    try dsimp only
    go_wp2
    go_ret
    exact ⟨by simp, J7.old⟩

end Go.Proofs.YtceeinljakcdkaaDoor
