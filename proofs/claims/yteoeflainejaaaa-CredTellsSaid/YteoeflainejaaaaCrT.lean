/-
  The walk of CredTells.
-/
import Derived.Test.YteoeflainejaaaaCrS
namespace Go.Proofs.Yteoeflainejaaaa
open Go.RowKit Go.Shelf
set_option linter.unusedVariables false
set_option linter.unusedSimpArgs false

theorem sameC_self (c : Cr) : sameC c c = true := sameC_iff.2 rfl
set_option maxRecDepth 100000 in
set_option maxHeartbeats 16000000 in
theorem tells_law (a b : Cr) (w : World) : Calls Try.prog 3 #[crV a, crV b] w fun e w' => e = .returned (.bool true) ∧ Below w.heap.size w w' := by
  have k0 := (Blk.new w (crC a) 23).alloc (.cells (crC b) 23)
  have k1 := Blk.new_ (w.alloc (.cells (crC a) 23)) (crC b) 23 (n := w.heap.size + 1) (by simp)
  have B0 := ((Below.refl w.heap.size w).alloc (Nat.le_refl _) (.cells (crC a) 23)).alloc (by simp) (.cells (crC b) 23)
  have HW := Lib.hid (fun V => wakes_cr V)
  have HS := Lib.hid (fun V => check_cr a V)
  have HRS := Lib.hid (fun V => rright_cr a V)
  have CA : ∀ V, B2 w w a b V → Calls Try.prog 11 #[crV a, crV b] V fun e w' => e = .returned (.bool (beD a b)) ∧ B2 w w a b w' := fun V h => (below_cr a b V).mono fun e w' ⟨he, bb⟩ => ⟨by rw [he, be_eq], h.step bb⟩
  have CB : ∀ V, B2 w w a b V → Calls Try.prog 12 #[crV a, crV b] V fun e w' => e = .returned (.bool (beD a b)) ∧ B2 w w a b w' := fun V h => (rbelow_cr a b V).mono fun e w' ⟨he, bb⟩ => ⟨he, h.step bb⟩
  have CT : ∀ V, B2 w w a b V → Calls Try.prog 13 #[] V fun e w' => e = .returned (crV (0, true, false, 0)) ∧ B2 w w a b w' := fun V h => (first_cr V).mono fun e w' ⟨he, bb⟩ => ⟨he, h.step bb⟩
  generalize beD a b = r at CA CB
  have hs : (r == r) = true := by simp
  have HC := chkC_or a
  generalize chkC a = ck at HS HC
  generalize rightC a = rb at HRS HC
  have HA := Lib.hid CA
  have HB := Lib.hid CB
  have HT := Lib.hid CT
  have HH := Lib.hid hs
  clear CA CB CT hs
  unfold crV at *
  rcases HC with ⟨rfl, rfl⟩ | ⟨rfl, rfl⟩
  · go_enter Try.func3, Try.ntmps3
    go_wp2_with (first
      | (refine (HW.out _).mono ?_; clear HW; rintro e v1 ⟨rfl, g1⟩; have hB1 := B0.trans (g1.mono B0.size); have a_1 := k0.below (g1) k0.lt; have b_1 := k1.below (g1) k1.lt; clear k0 k1
         go_wp2_with (first
           | (refine wpListG_load (by rfl) 23 (.tmp 2) rfl (w.heap.size) rfl 23 (crC a) _ a_1 Try.underlying23 rfl (cr_inf _) ?_)
           | (refine (HS.out _).mono ?_; clear HS; rintro e v2 ⟨rfl, g2⟩; have hB2 := hB1.trans (g2.mono hB1.size); have a_2 := a_1.below (g2) a_1.lt; have b_2 := b_1.below (g2) b_1.lt; clear a_1 b_1
              go_wp2_with (first
                | (refine wpListG_load (by rfl) 23 (.tmp 2) rfl (w.heap.size) rfl 23 (crC a) _ a_2 Try.underlying23 rfl (cr_inf _) ?_)
                | (refine (HRS.out _).mono ?_; clear HRS; rintro e v3 ⟨rfl, g3⟩; have hB3 := hB2.trans (g3.mono hB2.size); have a_3 := a_2.below (g3) a_2.lt; have b_3 := b_2.below (g3) b_2.lt; clear a_2 b_2))))))
    have J0 : B2 w w a b v3.drew := ⟨hB3.drew, a_3.drew, b_3.drew⟩
    have hne0 : Nonempty (Sig (B2 w w a b)) := ⟨⟨_, J0⟩⟩
    refine region_class (S := B2 w w a b) (by kernel_rfl) (by kernel_rfl) J0 ?_
    refine class_load (by rfl) 23 (.tmp 2) rfl (w.heap.size) rfl (crC a) 23 _ (fun _ h => h.ka) Try.underlying23 rfl (cr_inf _) ?_
    simp only [Act.put, List.setIfInBounds_toArray, List.set_cons_zero, List.set_cons_succ]
    refine class_load (by rfl) 23 (.tmp 3) rfl (w.heap.size + 1) rfl (crC b) 23 _ (fun _ h => h.kb) Try.underlying23 rfl (cr_inf _) ?_
    simp only [Act.put, List.setIfInBounds_toArray, List.set_cons_zero, List.set_cons_succ]
    go_big_quiet_step ((go_at_call 11; exact class_call _ HA.out))
    refine class_load (by rfl) 23 (.tmp 2) rfl (w.heap.size) rfl (crC a) 23 _ (fun _ h => h.ka) Try.underlying23 rfl (cr_inf _) ?_
    simp only [Act.put, List.setIfInBounds_toArray, List.set_cons_zero, List.set_cons_succ]
    refine class_load (by rfl) 23 (.tmp 3) rfl (w.heap.size + 1) rfl (crC b) 23 _ (fun _ h => h.kb) Try.underlying23 rfl (cr_inf _) ?_
    simp only [Act.put, List.setIfInBounds_toArray, List.set_cons_zero, List.set_cons_succ]
    go_big_quiet_step ((go_at_call 12; exact class_call _ HB.out))
    have hs := HH.out
    go_big_quiet_step (fail)
    go_big_quiet_step (fail)
    go_big_quiet_step ((go_at_call 13; exact class_call _ HT.out))
    go_big_quiet_step (fail)
    refine class_eql_cr (by rfl) (.tmp 33) (.tmp 34) rfl (0, true, false, 0) (0, true, false, 0) rfl rfl true (by decide) ?_
    simp only [Act.put, List.setIfInBounds_toArray, List.set_cons_zero, List.set_cons_succ]
    repeat (go_big_quiet_step (fail))
    refine wpQuiet_nil ?_
    rintro _ ⟨s7, rfl⟩
    have J7 := s7.h
    go_wp2_with fail
    go_ret
    exact ⟨rfl, J7.bel⟩
  · go_enter Try.func3, Try.ntmps3
    go_wp2_with (first
      | (refine (HW.out _).mono ?_; clear HW; rintro e v1 ⟨rfl, g1⟩; have hB1 := B0.trans (g1.mono B0.size); have a_1 := k0.below (g1) k0.lt; have b_1 := k1.below (g1) k1.lt; clear k0 k1
         go_wp2_with (first
           | (refine wpListG_load (by rfl) 23 (.tmp 2) rfl (w.heap.size) rfl 23 (crC a) _ a_1 Try.underlying23 rfl (cr_inf _) ?_)
           | (refine (HS.out _).mono ?_; clear HS; rintro e v2 ⟨rfl, g2⟩; have hB2 := hB1.trans (g2.mono hB1.size); have a_2 := a_1.below (g2) a_1.lt; have b_2 := b_1.below (g2) b_1.lt; clear a_1 b_1
              go_wp2_with (first
                | (refine wpListG_load (by rfl) 23 (.tmp 2) rfl (w.heap.size) rfl 23 (crC a) _ a_2 Try.underlying23 rfl (cr_inf _) ?_)
                | (refine (HRS.out _).mono ?_; clear HRS; rintro e v3 ⟨rfl, g3⟩; have hB3 := hB2.trans (g3.mono hB2.size); have a_3 := a_2.below (g3) a_2.lt; have b_3 := b_2.below (g3) b_2.lt; clear a_2 b_2))))))
    have J0 : B2 w w a b v3.drew := ⟨hB3.drew, a_3.drew, b_3.drew⟩
    have hne0 : Nonempty (Sig (B2 w w a b)) := ⟨⟨_, J0⟩⟩
    refine region_class (S := B2 w w a b) (by kernel_rfl) (by kernel_rfl) J0 ?_
    refine class_load (by rfl) 23 (.tmp 2) rfl (w.heap.size) rfl (crC a) 23 _ (fun _ h => h.ka) Try.underlying23 rfl (cr_inf _) ?_
    simp only [Act.put, List.setIfInBounds_toArray, List.set_cons_zero, List.set_cons_succ]
    refine class_load (by rfl) 23 (.tmp 3) rfl (w.heap.size + 1) rfl (crC b) 23 _ (fun _ h => h.kb) Try.underlying23 rfl (cr_inf _) ?_
    simp only [Act.put, List.setIfInBounds_toArray, List.set_cons_zero, List.set_cons_succ]
    go_big_quiet_step ((go_at_call 11; exact class_call _ HA.out))
    refine class_load (by rfl) 23 (.tmp 2) rfl (w.heap.size) rfl (crC a) 23 _ (fun _ h => h.ka) Try.underlying23 rfl (cr_inf _) ?_
    simp only [Act.put, List.setIfInBounds_toArray, List.set_cons_zero, List.set_cons_succ]
    refine class_load (by rfl) 23 (.tmp 3) rfl (w.heap.size + 1) rfl (crC b) 23 _ (fun _ h => h.kb) Try.underlying23 rfl (cr_inf _) ?_
    simp only [Act.put, List.setIfInBounds_toArray, List.set_cons_zero, List.set_cons_succ]
    go_big_quiet_step ((go_at_call 12; exact class_call _ HB.out))
    have hs := HH.out
    go_big_quiet_step (fail)
    go_big_quiet_step (fail)
    go_big_quiet_step ((go_at_call 13; exact class_call _ HT.out))
    go_big_quiet_step (fail)
    refine class_eql_cr (by rfl) (.tmp 33) (.tmp 34) rfl (0, true, false, 0) (0, true, false, 0) rfl rfl true (by decide) ?_
    simp only [Act.put, List.setIfInBounds_toArray, List.set_cons_zero, List.set_cons_succ]
    repeat (go_big_quiet_step (fail))
    refine wpQuiet_nil ?_
    rintro _ ⟨s7, rfl⟩
    have J7 := s7.h
    go_wp2_with fail
    go_ret
    exact ⟨rfl, J7.bel⟩
end Go.Proofs.Yteoeflainejaaaa
