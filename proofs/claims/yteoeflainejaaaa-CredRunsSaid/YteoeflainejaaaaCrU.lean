/-
  The walk of CredRuns.
-/
import Derived.Test.YteoeflainejaaaaCrS
namespace Go.Proofs.Yteoeflainejaaaa
open Go.RowKit Go.Shelf
set_option linter.unusedVariables false
set_option linter.unusedSimpArgs false

theorem sameC_self (c : Cr) : sameC c c = true := sameC_iff.2 rfl
set_option maxRecDepth 100000 in
set_option maxHeartbeats 16000000 in
theorem runs_law (c : Cr) (o : Int) (f : Bool) (uid : Int) (w : World) : Calls Try.prog 4 #[crV c, .agg #[.int .i64 o, .bool f], .int .i64 uid] w fun e w' => e = .returned (.bool true) ∧ Below w.heap.size w w' := by
  have k0 := (Blk.new w (crC c) 23).alloc (.cells #[.int .i64 o, .bool f] 31)
  have k1 := Blk.new_ (w.alloc (.cells (crC c) 23)) #[.int .i64 o, .bool f] 31 (n := w.heap.size + 1) (by simp)
  have B0 := ((Below.refl w.heap.size w).alloc (Nat.le_refl _) (.cells (crC c) 23)).alloc (by simp) (.cells #[.int .i64 o, .bool f] 31)
  have HW := Lib.hid (fun V => wakes_cr V)
  have HS := Lib.hid (fun V => exec_cr c o f V)
  have HRS := Lib.hid (fun V => rexec_cr c o f V)
  have HF := Lib.hid (fun V => nonew_cr c V)
  have HRF := Lib.hid (fun V => rnonew_cr c V)
  have HD := Lib.hid (fun V => drop_cr c uid V)
  have HRD := Lib.hid (fun V => rdrop_cr c uid V)
  obtain ⟨r, hr⟩ : ∃ r, chgC c (exC c o f) = r := ⟨_, rfl⟩
  obtain ⟨q, hq⟩ : ∃ r, chgC c (nnC c) = r := ⟨_, rfl⟩
  obtain ⟨p, hp⟩ : ∃ r, chgC c (drC c uid) = r := ⟨_, rfl⟩
  simp only [hr, hq, hp] at HS HRS HF HRF HD HRD
  clear hr hq hp
  obtain ⟨r1, r2⟩ := r
  obtain ⟨q1, q2⟩ := q
  obtain ⟨p1, p2⟩ := p
  simp only at HS HRS HF HRF HD HRD
  unfold crV at *
  go_enter Try.func4, Try.ntmps4
  go_wp2_with (first
    | (refine (HW.out _).mono ?_; clear HW; rintro e v1 ⟨rfl, g1⟩; have hB1 := B0.trans (g1.mono B0.size); have c_1 := k0.below (g1) k0.lt; have f_1 := k1.below (g1) k1.lt; clear k0 k1
       go_wp2_with (first
         | (refine wpListG_load (by rfl) 23 (.tmp 3) rfl (w.heap.size) rfl 23 (crC c) _ c_1 Try.underlying23 rfl (cr_inf _) ?_)
         | (refine wpListG_load (by rfl) 31 (.tmp 4) rfl (w.heap.size + 1) rfl 31 #[.int .i64 o, .bool f] _ f_1 Try.underlying31 rfl rfl ?_)
         | (refine (HS.out _).mono ?_; clear HS; rintro e v2 ⟨rfl, g2⟩; have hB2 := hB1.trans (g2.mono hB1.size); have c_2 := c_1.below (g2) c_1.lt; have f_2 := f_1.below (g2) f_1.lt; clear c_1 f_1
            go_wp2_with (first
              | (refine wpList_store_blk rfl 23 (.tmp 7) (.tmp 25) rfl v2.heap.size (crC cr0) (crC r1) 23 rfl rfl (Blk.new _ _ _) rfl (cr_inf _) (cr_one _) ?_; intro v3 x_3 g3; have hB3 := hB2.trans ((newC rfl g3).mono hB2.size); have c_3 := c_2.below (newC rfl g3) c_2.lt; have f_3 := f_2.below (newC rfl g3) f_2.lt; clear c_2 f_2
                 go_wp2_with (first
                   | (refine wpListG_load (by rfl) 23 (.tmp 3) rfl (w.heap.size) rfl 23 (crC c) _ c_3 Try.underlying23 rfl (cr_inf _) ?_)
                   | (refine wpListG_load (by rfl) 31 (.tmp 4) rfl (w.heap.size + 1) rfl 31 #[.int .i64 o, .bool f] _ f_3 Try.underlying31 rfl rfl ?_)
                   | (refine (HRS.out _).mono ?_; clear HRS; rintro e v4 ⟨rfl, g4⟩; have hB4 := hB3.trans (g4.mono hB3.size); have c_4 := c_3.below (g4) c_3.lt; have f_4 := f_3.below (g4) f_3.lt; have x_4 := x_3.below (g4) x_3.lt; clear c_3 f_3 x_3
                      go_wp2_with (first
                        | (refine wpList_store_blk rfl 23 (.tmp 9) (.tmp 31) rfl v4.heap.size (crC cr0) (crC r1) 23 rfl rfl (Blk.new _ _ _) rfl (cr_inf _) (cr_one _) ?_; intro v5 y_5 g5; have hB5 := hB4.trans ((newC rfl g5).mono hB4.size); have c_5 := c_4.below (newC rfl g5) c_4.lt; have f_5 := f_4.below (newC rfl g5) f_4.lt; have x_5 := x_4.below (newC rfl g5) x_4.lt; clear c_4 f_4 x_4
                           go_wp2_with (first
                             | (refine wpListG_load (by rfl) 23 (.tmp 3) rfl (w.heap.size) rfl 23 (crC c) _ c_5 Try.underlying23 rfl (cr_inf _) ?_)
                             | (refine (HF.out _).mono ?_; clear HF; rintro e v6 ⟨rfl, g6⟩; have hB6 := hB5.trans (g6.mono hB5.size); have c_6 := c_5.below (g6) c_5.lt; have f_6 := f_5.below (g6) f_5.lt; have x_6 := x_5.below (g6) x_5.lt; have y_6 := y_5.below (g6) y_5.lt; clear c_5 f_5 x_5 y_5
                                go_wp2_with (first
                                  | (refine wpList_store_blk rfl 23 (.tmp 11) (.tmp 36) rfl v6.heap.size (crC cr0) (crC q1) 23 rfl rfl (Blk.new _ _ _) rfl (cr_inf _) (cr_one _) ?_; intro v7 z_7 g7; have hB7 := hB6.trans ((newC rfl g7).mono hB6.size); have c_7 := c_6.below (newC rfl g7) c_6.lt; have f_7 := f_6.below (newC rfl g7) f_6.lt; have x_7 := x_6.below (newC rfl g7) x_6.lt; have y_7 := y_6.below (newC rfl g7) y_6.lt; clear c_6 f_6 x_6 y_6
                                     go_wp2_with (first
                                       | (refine wpListG_load (by rfl) 23 (.tmp 3) rfl (w.heap.size) rfl 23 (crC c) _ c_7 Try.underlying23 rfl (cr_inf _) ?_)
                                       | (refine (HRF.out _).mono ?_; clear HRF; rintro e v8 ⟨rfl, g8⟩; have hB8 := hB7.trans (g8.mono hB7.size); have c_8 := c_7.below (g8) c_7.lt; have f_8 := f_7.below (g8) f_7.lt; have x_8 := x_7.below (g8) x_7.lt; have y_8 := y_7.below (g8) y_7.lt; have z_8 := z_7.below (g8) z_7.lt; clear c_7 f_7 x_7 y_7 z_7
                                          go_wp2_with (first
                                            | (refine wpList_store_blk rfl 23 (.tmp 13) (.tmp 41) rfl v8.heap.size (crC cr0) (crC q1) 23 rfl rfl (Blk.new _ _ _) rfl (cr_inf _) (cr_one _) ?_; intro v9 u_9 g9; have hB9 := hB8.trans ((newC rfl g9).mono hB8.size); have c_9 := c_8.below (newC rfl g9) c_8.lt; have f_9 := f_8.below (newC rfl g9) f_8.lt; have x_9 := x_8.below (newC rfl g9) x_8.lt; have y_9 := y_8.below (newC rfl g9) y_8.lt; have z_9 := z_8.below (newC rfl g9) z_8.lt; clear c_8 f_8 x_8 y_8 z_8
                                               go_wp2_with (first
                                                 | (refine wpListG_load (by rfl) 23 (.tmp 3) rfl (w.heap.size) rfl 23 (crC c) _ c_9 Try.underlying23 rfl (cr_inf _) ?_)
                                                 | (refine (HD.out _).mono ?_; clear HD; rintro e v10 ⟨rfl, g10⟩; have hB10 := hB9.trans (g10.mono hB9.size); have c_10 := c_9.below (g10) c_9.lt; have f_10 := f_9.below (g10) f_9.lt; have x_10 := x_9.below (g10) x_9.lt; have y_10 := y_9.below (g10) y_9.lt; have z_10 := z_9.below (g10) z_9.lt; have u_10 := u_9.below (g10) u_9.lt; clear c_9 f_9 x_9 y_9 z_9 u_9
                                                    go_wp2_with (first
                                                      | (refine wpList_store_blk rfl 23 (.tmp 15) (.tmp 47) rfl v10.heap.size (crC cr0) (crC p1) 23 rfl rfl (Blk.new _ _ _) rfl (cr_inf _) (cr_one _) ?_; intro v11 s_11 g11; have hB11 := hB10.trans ((newC rfl g11).mono hB10.size); have c_11 := c_10.below (newC rfl g11) c_10.lt; have f_11 := f_10.below (newC rfl g11) f_10.lt; have x_11 := x_10.below (newC rfl g11) x_10.lt; have y_11 := y_10.below (newC rfl g11) y_10.lt; have z_11 := z_10.below (newC rfl g11) z_10.lt; have u_11 := u_10.below (newC rfl g11) u_10.lt; clear c_10 f_10 x_10 y_10 z_10 u_10
                                                         go_wp2_with (first
                                                           | (refine wpListG_load (by rfl) 23 (.tmp 3) rfl (w.heap.size) rfl 23 (crC c) _ c_11 Try.underlying23 rfl (cr_inf _) ?_)
                                                           | (refine (HRD.out _).mono ?_; clear HRD; rintro e v12 ⟨rfl, g12⟩; have hB12 := hB11.trans (g12.mono hB11.size); have c_12 := c_11.below (g12) c_11.lt; have f_12 := f_11.below (g12) f_11.lt; have x_12 := x_11.below (g12) x_11.lt; have y_12 := y_11.below (g12) y_11.lt; have z_12 := z_11.below (g12) z_11.lt; have u_12 := u_11.below (g12) u_11.lt; have s_12 := s_11.below (g12) s_11.lt; clear c_11 f_11 x_11 y_11 z_11 u_11 s_11
                                                              go_wp2_with (first
                                                                | (refine wpList_store_blk rfl 23 (.tmp 17) (.tmp 53) rfl v12.heap.size (crC cr0) (crC p1) 23 rfl rfl (Blk.new _ _ _) rfl (cr_inf _) (cr_one _) ?_; intro v13 t_13 g13; have hB13 := hB12.trans ((newC rfl g13).mono hB12.size); have c_13 := c_12.below (newC rfl g13) c_12.lt; have f_13 := f_12.below (newC rfl g13) f_12.lt; have x_13 := x_12.below (newC rfl g13) x_12.lt; have y_13 := y_12.below (newC rfl g13) y_12.lt; have z_13 := z_12.below (newC rfl g13) z_12.lt; have u_13 := u_12.below (newC rfl g13) u_12.lt; have s_13 := s_12.below (newC rfl g13) s_12.lt; clear c_12 f_12 x_12 y_12 z_12 u_12 s_12
                                                                   go_wp2_with (first
                                                                     | (refine wpListG_load (by rfl) 23 (.tmp 7) rfl (v2.heap.size) rfl 23 (crC r1) _ x_13 Try.underlying23 rfl (cr_inf _) ?_)
                                                                     | (refine wpListG_load (by rfl) 23 (.tmp 9) rfl (v4.heap.size) rfl 23 (crC r1) _ y_13 Try.underlying23 rfl (cr_inf _) ?_)
                                                                     | (refine wpListG_eql_cr (by rfl) (.tmp 55) (.tmp 56) rfl r1 r1 rfl rfl true (sameC_self _) ?_)
                                                                     | (refine wpListG_load (by rfl) 23 (.tmp 11) rfl (v6.heap.size) rfl 23 (crC q1) _ z_13 Try.underlying23 rfl (cr_inf _) ?_)
                                                                     | (refine wpListG_load (by rfl) 23 (.tmp 13) rfl (v8.heap.size) rfl 23 (crC q1) _ u_13 Try.underlying23 rfl (cr_inf _) ?_)
                                                                     | (refine wpListG_eql_cr (by rfl) (.tmp 64) (.tmp 65) rfl q1 q1 rfl rfl true (sameC_self _) ?_)
                                                                     | (refine wpListG_load (by rfl) 23 (.tmp 15) rfl (v10.heap.size) rfl 23 (crC p1) _ s_13 Try.underlying23 rfl (cr_inf _) ?_)
                                                                     | (refine wpListG_load (by rfl) 23 (.tmp 17) rfl (v12.heap.size) rfl 23 (crC p1) _ t_13 Try.underlying23 rfl (cr_inf _) ?_)
                                                                     | (refine wpListG_eql_cr (by rfl) (.tmp 74) (.tmp 75) rfl p1 p1 rfl rfl true (sameC_self _) ?_))))))))))))))))))))))))))))
  go_ret
  exact ⟨by simp, hB13⟩
end Go.Proofs.Yteoeflainejaaaa
