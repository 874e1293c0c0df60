/-
  The walk of CredModes.
-/
import Derived.Test.YteoeflainejaaaaCrS
namespace Go.Proofs.Yteoeflainejaaaa
open Go.RowKit Go.Shelf
set_option linter.unusedVariables false
set_option linter.unusedSimpArgs false

theorem sameC_self (c : Cr) : sameC c c = true := sameC_iff.2 rfl
set_option maxRecDepth 100000 in
set_option maxHeartbeats 16000000 in
theorem modes_law (c : Cr) (w : World) : Calls Try.prog 5 #[crV c] w fun e w' => e = .returned (.bool true) ∧ Below w.heap.size w w' := by
  have k0 := Blk.new w (crC c) 23
  have B0 := (Below.refl w.heap.size w).alloc (Nat.le_refl _) (.cells (crC c) 23)
  have HW := Lib.hid (fun V => wakes_cr V)
  have HS := Lib.hid (fun V => strict_cr c V)
  have HRS := Lib.hid (fun V => rstrict_cr c V)
  have HF := Lib.hid (fun V => filter_cr c V)
  have HRF := Lib.hid (fun V => rfilter_cr c V)
  obtain ⟨r, hr⟩ : ∃ r, chgC c (stC c) = r := ⟨_, rfl⟩
  obtain ⟨q, hq⟩ : ∃ r, chgC c (fiC c) = r := ⟨_, rfl⟩
  simp only [hr, hq] at HS HRS HF HRF
  clear hr hq
  obtain ⟨r1, r2⟩ := r
  obtain ⟨q1, q2⟩ := q
  simp only at HS HRS HF HRF
  unfold crV at *
  go_enter Try.func5, Try.ntmps5
  go_wp2_with (first
    | (refine (HW.out _).mono ?_; clear HW; rintro e v1 ⟨rfl, g1⟩; have hB1 := B0.trans (g1.mono B0.size); have c_1 := k0.below (g1) k0.lt; clear k0
       go_wp2_with (first
         | (refine wpListG_load (by rfl) 23 (.tmp 1) rfl (w.heap.size) rfl 23 (crC c) _ c_1 Try.underlying23 rfl (cr_inf _) ?_)
         | (refine (HS.out _).mono ?_; clear HS; rintro e v2 ⟨rfl, g2⟩; have hB2 := hB1.trans (g2.mono hB1.size); have c_2 := c_1.below (g2) c_1.lt; clear c_1
            go_wp2_with (first
              | (refine wpList_store_blk rfl 23 (.tmp 3) (.tmp 16) rfl v2.heap.size (crC cr0) (crC r1) 23 rfl rfl (Blk.new _ _ _) rfl (cr_inf _) (cr_one _) ?_; intro v3 x_3 g3; have hB3 := hB2.trans ((newC rfl g3).mono hB2.size); have c_3 := c_2.below (newC rfl g3) c_2.lt; clear c_2
                 go_wp2_with (first
                   | (refine wpListG_load (by rfl) 23 (.tmp 1) rfl (w.heap.size) rfl 23 (crC c) _ c_3 Try.underlying23 rfl (cr_inf _) ?_)
                   | (refine (HRS.out _).mono ?_; clear HRS; rintro e v4 ⟨rfl, g4⟩; have hB4 := hB3.trans (g4.mono hB3.size); have c_4 := c_3.below (g4) c_3.lt; have x_4 := x_3.below (g4) x_3.lt; clear c_3 x_3
                      go_wp2_with (first
                        | (refine wpList_store_blk rfl 23 (.tmp 5) (.tmp 21) rfl v4.heap.size (crC cr0) (crC r1) 23 rfl rfl (Blk.new _ _ _) rfl (cr_inf _) (cr_one _) ?_; intro v5 y_5 g5; have hB5 := hB4.trans ((newC rfl g5).mono hB4.size); have c_5 := c_4.below (newC rfl g5) c_4.lt; have x_5 := x_4.below (newC rfl g5) x_4.lt; clear c_4 x_4
                           go_wp2_with (first
                             | (refine wpListG_load (by rfl) 23 (.tmp 1) rfl (w.heap.size) rfl 23 (crC c) _ c_5 Try.underlying23 rfl (cr_inf _) ?_)
                             | (refine (HF.out _).mono ?_; clear HF; rintro e v6 ⟨rfl, g6⟩; have hB6 := hB5.trans (g6.mono hB5.size); have c_6 := c_5.below (g6) c_5.lt; have x_6 := x_5.below (g6) x_5.lt; have y_6 := y_5.below (g6) y_5.lt; clear c_5 x_5 y_5
                                go_wp2_with (first
                                  | (refine wpList_store_blk rfl 23 (.tmp 7) (.tmp 26) rfl v6.heap.size (crC cr0) (crC q1) 23 rfl rfl (Blk.new _ _ _) rfl (cr_inf _) (cr_one _) ?_; intro v7 z_7 g7; have hB7 := hB6.trans ((newC rfl g7).mono hB6.size); have c_7 := c_6.below (newC rfl g7) c_6.lt; have x_7 := x_6.below (newC rfl g7) x_6.lt; have y_7 := y_6.below (newC rfl g7) y_6.lt; clear c_6 x_6 y_6
                                     go_wp2_with (first
                                       | (refine wpListG_load (by rfl) 23 (.tmp 1) rfl (w.heap.size) rfl 23 (crC c) _ c_7 Try.underlying23 rfl (cr_inf _) ?_)
                                       | (refine (HRF.out _).mono ?_; clear HRF; rintro e v8 ⟨rfl, g8⟩; have hB8 := hB7.trans (g8.mono hB7.size); have c_8 := c_7.below (g8) c_7.lt; have x_8 := x_7.below (g8) x_7.lt; have y_8 := y_7.below (g8) y_7.lt; have z_8 := z_7.below (g8) z_7.lt; clear c_7 x_7 y_7 z_7
                                          go_wp2_with (first
                                            | (refine wpList_store_blk rfl 23 (.tmp 9) (.tmp 31) rfl v8.heap.size (crC cr0) (crC q1) 23 rfl rfl (Blk.new _ _ _) rfl (cr_inf _) (cr_one _) ?_; intro v9 u_9 g9; have hB9 := hB8.trans ((newC rfl g9).mono hB8.size); have c_9 := c_8.below (newC rfl g9) c_8.lt; have x_9 := x_8.below (newC rfl g9) x_8.lt; have y_9 := y_8.below (newC rfl g9) y_8.lt; have z_9 := z_8.below (newC rfl g9) z_8.lt; clear c_8 x_8 y_8 z_8
                                               go_wp2_with (first
                                                 | (refine wpListG_load (by rfl) 23 (.tmp 3) rfl (v2.heap.size) rfl 23 (crC r1) _ x_9 Try.underlying23 rfl (cr_inf _) ?_)
                                                 | (refine wpListG_load (by rfl) 23 (.tmp 5) rfl (v4.heap.size) rfl 23 (crC r1) _ y_9 Try.underlying23 rfl (cr_inf _) ?_)
                                                 | (refine wpListG_eql_cr (by rfl) (.tmp 33) (.tmp 34) rfl r1 r1 rfl rfl true (sameC_self _) ?_)
                                                 | (refine wpListG_load (by rfl) 23 (.tmp 7) rfl (v6.heap.size) rfl 23 (crC q1) _ z_9 Try.underlying23 rfl (cr_inf _) ?_)
                                                 | (refine wpListG_load (by rfl) 23 (.tmp 9) rfl (v8.heap.size) rfl 23 (crC q1) _ u_9 Try.underlying23 rfl (cr_inf _) ?_)
                                                 | (refine wpListG_eql_cr (by rfl) (.tmp 42) (.tmp 43) rfl q1 q1 rfl rfl true (sameC_self _) ?_))))))))))))))))))))
  go_ret
  exact ⟨by simp, hB9⟩
end Go.Proofs.Yteoeflainejaaaa
