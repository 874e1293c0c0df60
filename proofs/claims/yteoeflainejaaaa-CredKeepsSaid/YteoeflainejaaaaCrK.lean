/-
  The walk of CredKeeps.
-/
import Derived.Test.YteoeflainejaaaaCrS
namespace Go.Proofs.Yteoeflainejaaaa
open Go.RowKit Go.Shelf
set_option linter.unusedVariables false
set_option linter.unusedSimpArgs false

theorem sameC_self (c : Cr) : sameC c c = true := sameC_iff.2 rfl
set_option maxRecDepth 100000 in
set_option maxHeartbeats 16000000 in
theorem keeps_law (c : Cr) (o : Int) (w : World) : Calls Try.prog 7 #[crV c, .int .i64 o] w fun e w' => e = .returned (.bool true) ∧ Below w.heap.size w w' := by
  have k0 := Blk.new w (crC c) 23
  have B0 := (Below.refl w.heap.size w).alloc (Nat.le_refl _) (.cells (crC c) 23)
  have HW := Lib.hid (fun V => wakes_cr V)
  have HC := Lib.hid (fun V => check_cr c V)
  rcases chkC_or c with ⟨hr, hk⟩ | ⟨hr, hk⟩
  · have HD := Lib.hid (fun V => drop_cr c c.1 V)
    have HE := Lib.hid (fun V => exec_cr c o false V)
    have HN := Lib.hid (fun V => nonew_cr c V)
    have HN2 := Lib.hid (fun V => nonew_cr (nnC c).1 V)
    have HE2 := Lib.hid (fun V => exec_cr (nnC c).1 o true V)
    rw [hk] at HC
    have hru := right_iff.1 hr
    have hrz : rightC (nnC c).1 = true := hr
    have e1 : chgC c (drC c c.1) = ((c.1, c.2.1 && (c.1 == 0), c.2.2.1, c.2.2.2), 0) := by
      unfold chgC drC
      rw [if_pos hr, if_pos (user_iff.2 hru.1)]
      simp
    have e3 : chgC c (nnC c) = ((nnC c).1, 0) := by unfold chgC; rw [if_pos hr]; rfl
    have e4 : chgC (nnC c).1 (nnC (nnC c).1) = ((nnC c).1, 0) := by unfold chgC; rw [if_pos hrz]; rfl
    rw [e1] at HD
    rw [e3] at HN
    rw [e4] at HN2
    clear e1 e3 e4
    obtain ⟨z, hz⟩ : ∃ z, (nnC c).1 = z := ⟨_, rfl⟩
    have e5 : chgC z (exC z o true) = if userC o = true then (z, 0) else (cr0, 2) := by
      rw [← hz]
      unfold chgC
      rw [if_pos hrz]
      unfold exC nnC
      cases userC o <;> simp
    rw [hz] at HN HN2 HE2
    rw [e5] at HE2
    have e2 : chgC c (exC c o false) = if userC o = true then (c, 0) else (cr0, 2) := by
      unfold chgC
      rw [if_pos hr]
      unfold exC
      cases userC o <;> simp
    rw [e2] at HE
    clear hz e5 hrz e2 hru hr hk
    obtain ⟨u, a, n, m⟩ := c
    simp only at HD HE HN
    obtain ⟨a9, ha9⟩ : ∃ a9, (a && (u == 0)) = a9 := ⟨_, rfl⟩
    rw [ha9] at HD
    obtain ⟨u9, hu9⟩ : ∃ u9 : Int, u = u9 := ⟨_, rfl⟩
    obtain ⟨m9, hm9⟩ : ∃ m9 : Int, m = m9 := ⟨_, rfl⟩
    have HD' : Hid (∀ V, Calls Try.prog 18 #[crV (u, a, n, m), .int .i64 u] V fun e w' => e = .returned (.tuple #[crV (u9, a9, n, m9), .int .i64 0]) ∧ Below V.heap.size V w') := by
      rw [← hu9, ← hm9]; exact HD
    clear HD
    have f1 : (u9 != u) = false := by rw [hu9]; simp
    have f3 : (m9 != m) = false := by rw [hm9]; simp
    clear hu9 hm9
    have haa : a9 = true → a = true := by rw [← ha9]; cases a <;> simp
    clear ha9
    have hor : (a9 = false) ∨ (a9 = true ∧ a = true) := by cases a9 <;> simp_all
    clear haa
    have hu : userC o = if decide (o < 0) = true then false else if decide (9 < o) = true then false else true := by
      unfold userC
      by_cases h1 : o < 0
      · rw [decide_eq_true h1, decide_eq_false (by omega : ¬ 0 ≤ o)]; simp
      · by_cases h2 : 9 < o
        · rw [decide_eq_false h1, decide_eq_true h2, decide_eq_false (by omega : ¬ o ≤ 9)]; simp
        · rw [decide_eq_false h1, decide_eq_false h2, decide_eq_true (by omega : o ≤ 9), decide_eq_true (by omega : 0 ≤ o)]; simp
    generalize userC o = ub at HE HE2 hu
    unfold crV at *
    rcases hor with rfl | ⟨rfl, rfl⟩
    · cases n
      · skip
        cases h1 : decide (o < 0)
        · cases h2 : decide (9 < o)
          · skip
            have hub : ub = true := by rw [hu, h1, h2]; rfl
            subst hub
            simp only [if_true, if_false, Bool.false_eq_true] at HE HE2
            clear hu
            go_enter Try.func7, Try.ntmps7
            go_wp2_with (first
              | (go_at_call 8; refine (HW.out _).mono ?_; clear HW; rintro e v1 ⟨rfl, g1⟩; have hB1 := B0.trans (g1.mono B0.size); have c_1 := k0.below (g1) k0.lt; clear k0
                 go_wp2_with (first
                   | (refine wpListG_load (by rfl) 23 (.tmp 2) rfl (w.heap.size) rfl 23 (crC (u, a, false, m)) _ c_1 Try.underlying23 rfl (cr_inf _) ?_)
                   | (go_at_call 9; refine (HC.out _).mono ?_; clear HC; rintro e v2 ⟨rfl, g2⟩; have hB2 := hB1.trans (g2.mono hB1.size); have c_2 := c_1.below (g2) c_1.lt; clear c_1; have qc0v2 : v2.cell? ⟨w.heap.size, 0, none⟩ = some (.int .i64 u) := c_2.cell 0
                      go_wp2_with (first
                        | (refine wpListG_load (by rfl) 23 (.tmp 2) rfl (w.heap.size) rfl 23 (crC (u, a, false, m)) _ c_2 Try.underlying23 rfl (cr_inf _) ?_)
                        | (go_at_call 18; refine (HD'.out _).mono ?_; clear HD'; rintro e v3 ⟨rfl, g3⟩; have hB3 := hB2.trans (g3.mono hB2.size); have c_3 := c_2.below (g3) c_2.lt; clear c_2
                           go_wp2_with (first
                             | (refine wpList_store_blk rfl 23 (.tmp 5) (.tmp 24) rfl v3.heap.size (crC cr0) (crC (u9, false, false, m9)) 23 rfl rfl (Blk.new _ _ _) rfl (cr_inf _) (cr_one _) ?_; intro v4 x_4 g4; have hB4 := hB3.trans ((newC rfl g4).mono hB3.size); have c_4 := c_3.below (newC rfl g4) c_3.lt; clear c_3; have qc0v4 : v4.cell? ⟨w.heap.size, 0, none⟩ = some (.int .i64 u) := c_4.cell 0; have qc1v4 : v4.cell? ⟨w.heap.size, 1, none⟩ = some (.bool a) := c_4.cell 1; have qc2v4 : v4.cell? ⟨w.heap.size, 2, none⟩ = some (.bool false) := c_4.cell 2; have qc3v4 : v4.cell? ⟨w.heap.size, 3, none⟩ = some (.int .i64 m) := c_4.cell 3; have qx0v4 : v4.cell? ⟨v3.heap.size, 0, none⟩ = some (.int .i64 u9) := x_4.cell 0; have qx1v4 : v4.cell? ⟨v3.heap.size, 1, none⟩ = some (.bool false) := x_4.cell 1; have qx2v4 : v4.cell? ⟨v3.heap.size, 2, none⟩ = some (.bool false) := x_4.cell 2; have qx3v4 : v4.cell? ⟨v3.heap.size, 3, none⟩ = some (.int .i64 m9) := x_4.cell 3
                                go_wp2_with (first
                                  | (refine wpListG_load (by rfl) 23 (.tmp 2) rfl (w.heap.size) rfl 23 (crC (u, a, false, m)) _ c_4 Try.underlying23 rfl (cr_inf _) ?_)
                                  | (go_at_call 14; refine (HE.out _).mono ?_; clear HE; rintro e v5 ⟨rfl, g5⟩; have hB5 := hB4.trans (g5.mono hB4.size); have c_5 := c_4.below (g5) c_4.lt; have x_5 := x_4.below (g5) x_4.lt; clear c_4 x_4
                                     go_wp2_with (first
                                       | (refine wpList_store_blk rfl 23 (.tmp 7) (.tmp 63) rfl v5.heap.size (crC cr0) (crC (u, a, false, m)) 23 rfl rfl (Blk.new _ _ _) rfl (cr_inf _) (cr_one _) ?_; intro v6 y_6 g6; have hB6 := hB5.trans ((newC rfl g6).mono hB5.size); have c_6 := c_5.below (newC rfl g6) c_5.lt; have x_6 := x_5.below (newC rfl g6) x_5.lt; clear c_5 x_5
                                          go_wp2_with (first
                                            | (refine wpListG_load (by rfl) 23 (.tmp 2) rfl (w.heap.size) rfl 23 (crC (u, a, false, m)) _ c_6 Try.underlying23 rfl (cr_inf _) ?_)
                                            | (go_at_call 16; refine (HN.out _).mono ?_; clear HN; rintro e v7 ⟨rfl, g7⟩; have hB7 := hB6.trans (g7.mono hB6.size); have c_7 := c_6.below (g7) c_6.lt; have x_7 := x_6.below (g7) x_6.lt; have y_7 := y_6.below (g7) y_6.lt; clear c_6 x_6 y_6
                                               go_wp2_with (first
                                                 | (refine wpList_store_blk rfl 23 (.tmp 8) (.tmp 76) rfl v7.heap.size (crC cr0) (crC z) 23 rfl rfl (Blk.new _ _ _) rfl (cr_inf _) (cr_one _) ?_; intro v8 z_8 g8; have hB8 := hB7.trans ((newC rfl g8).mono hB7.size); have c_8 := c_7.below (newC rfl g8) c_7.lt; have x_8 := x_7.below (newC rfl g8) x_7.lt; have y_8 := y_7.below (newC rfl g8) y_7.lt; clear c_7 x_7 y_7
                                                    go_wp2_with (first
                                                      | (refine wpListG_load (by rfl) 23 (.tmp 8) rfl (v7.heap.size) rfl 23 (crC z) _ z_8 Try.underlying23 rfl (cr_inf _) ?_)
                                                      | (go_at_call 16; refine (HN2.out _).mono ?_; clear HN2; rintro e v9 ⟨rfl, g9⟩; have hB9 := hB8.trans (g9.mono hB8.size); have c_9 := c_8.below (g9) c_8.lt; have x_9 := x_8.below (g9) x_8.lt; have y_9 := y_8.below (g9) y_8.lt; have z_9 := z_8.below (g9) z_8.lt; clear c_8 x_8 y_8 z_8
                                                         go_wp2_with (first
                                                           | (refine wpList_store_blk rfl 23 (.tmp 10) (.tmp 81) rfl v9.heap.size (crC cr0) (crC z) 23 rfl rfl (Blk.new _ _ _) rfl (cr_inf _) (cr_one _) ?_; intro v10 p_10 g10; have hB10 := hB9.trans ((newC rfl g10).mono hB9.size); have c_10 := c_9.below (newC rfl g10) c_9.lt; have x_10 := x_9.below (newC rfl g10) x_9.lt; have y_10 := y_9.below (newC rfl g10) y_9.lt; have z_10 := z_9.below (newC rfl g10) z_9.lt; clear c_9 x_9 y_9 z_9
                                                              go_wp2_with (first
                                                                | (refine wpListG_load (by rfl) 23 (.tmp 8) rfl (v7.heap.size) rfl 23 (crC z) _ z_10 Try.underlying23 rfl (cr_inf _) ?_)
                                                                | (go_at_call 14; refine (HE2.out _).mono ?_; clear HE2; rintro e v11 ⟨rfl, g11⟩; have hB11 := hB10.trans (g11.mono hB10.size); have c_11 := c_10.below (g11) c_10.lt; have x_11 := x_10.below (g11) x_10.lt; have y_11 := y_10.below (g11) y_10.lt; have z_11 := z_10.below (g11) z_10.lt; have p_11 := p_10.below (g11) p_10.lt; clear c_10 x_10 y_10 z_10 p_10
                                                                   go_wp2_with (first
                                                                     | (refine wpList_store_blk rfl 23 (.tmp 12) (.tmp 88) rfl v11.heap.size (crC cr0) (crC z) 23 rfl rfl (Blk.new _ _ _) rfl (cr_inf _) (cr_one _) ?_; intro v12 q_12 g12; have hB12 := hB11.trans ((newC rfl g12).mono hB11.size); have c_12 := c_11.below (newC rfl g12) c_11.lt; have x_12 := x_11.below (newC rfl g12) x_11.lt; have y_12 := y_11.below (newC rfl g12) y_11.lt; have z_12 := z_11.below (newC rfl g12) z_11.lt; have p_12 := p_11.below (newC rfl g12) p_11.lt; clear c_11 x_11 y_11 z_11 p_11
                                                                        go_wp2_with (first
                                                                          | (refine wpListG_load (by rfl) 23 (.tmp 7) rfl (v5.heap.size) rfl 23 (crC (u, a, false, m)) _ y_12 Try.underlying23 rfl (cr_inf _) ?_)
                                                                          | (refine wpListG_load (by rfl) 23 (.tmp 2) rfl (w.heap.size) rfl 23 (crC (u, a, false, m)) _ c_12 Try.underlying23 rfl (cr_inf _) ?_)
                                                                          | (refine wpListG_eql_cr (by rfl) (.tmp 105) (.tmp 106) rfl (u, a, false, m) (u, a, false, m) rfl rfl true (sameC_self _) ?_)
                                                                          | (refine wpListG_load (by rfl) 23 (.tmp 10) rfl (v9.heap.size) rfl 23 (crC z) _ p_12 Try.underlying23 rfl (cr_inf _) ?_)
                                                                          | (refine wpListG_load (by rfl) 23 (.tmp 8) rfl (v7.heap.size) rfl 23 (crC z) _ z_12 Try.underlying23 rfl (cr_inf _) ?_)
                                                                          | (refine wpListG_eql_cr (by rfl) (.tmp 110) (.tmp 111) rfl z z rfl rfl true (sameC_self _) ?_)
                                                                          | (refine wpListG_load (by rfl) 23 (.tmp 12) rfl (v11.heap.size) rfl 23 (crC z) _ q_12 Try.underlying23 rfl (cr_inf _) ?_)
                                                                          | (refine wpListG_load (by rfl) 23 (.tmp 8) rfl (v7.heap.size) rfl 23 (crC z) _ z_12 Try.underlying23 rfl (cr_inf _) ?_)
                                                                          | (refine wpListG_eql_cr (by rfl) (.tmp 115) (.tmp 116) rfl z z rfl rfl true (sameC_self _) ?_))))))))))))))))))))))))))
            go_ret
            exact ⟨rfl, hB12⟩
          · skip
            have hub : ub = false := by rw [hu, h1, h2]; rfl
            subst hub
            simp only [if_true, if_false, Bool.false_eq_true] at HE HE2
            clear hu
            go_enter Try.func7, Try.ntmps7
            go_wp2_with (first
              | (go_at_call 8; refine (HW.out _).mono ?_; clear HW; rintro e v1 ⟨rfl, g1⟩; have hB1 := B0.trans (g1.mono B0.size); have c_1 := k0.below (g1) k0.lt; clear k0
                 go_wp2_with (first
                   | (refine wpListG_load (by rfl) 23 (.tmp 2) rfl (w.heap.size) rfl 23 (crC (u, a, false, m)) _ c_1 Try.underlying23 rfl (cr_inf _) ?_)
                   | (go_at_call 9; refine (HC.out _).mono ?_; clear HC; rintro e v2 ⟨rfl, g2⟩; have hB2 := hB1.trans (g2.mono hB1.size); have c_2 := c_1.below (g2) c_1.lt; clear c_1; have qc0v2 : v2.cell? ⟨w.heap.size, 0, none⟩ = some (.int .i64 u) := c_2.cell 0
                      go_wp2_with (first
                        | (refine wpListG_load (by rfl) 23 (.tmp 2) rfl (w.heap.size) rfl 23 (crC (u, a, false, m)) _ c_2 Try.underlying23 rfl (cr_inf _) ?_)
                        | (go_at_call 18; refine (HD'.out _).mono ?_; clear HD'; rintro e v3 ⟨rfl, g3⟩; have hB3 := hB2.trans (g3.mono hB2.size); have c_3 := c_2.below (g3) c_2.lt; clear c_2
                           go_wp2_with (first
                             | (refine wpList_store_blk rfl 23 (.tmp 5) (.tmp 24) rfl v3.heap.size (crC cr0) (crC (u9, false, false, m9)) 23 rfl rfl (Blk.new _ _ _) rfl (cr_inf _) (cr_one _) ?_; intro v4 x_4 g4; have hB4 := hB3.trans ((newC rfl g4).mono hB3.size); have c_4 := c_3.below (newC rfl g4) c_3.lt; clear c_3; have qc0v4 : v4.cell? ⟨w.heap.size, 0, none⟩ = some (.int .i64 u) := c_4.cell 0; have qc1v4 : v4.cell? ⟨w.heap.size, 1, none⟩ = some (.bool a) := c_4.cell 1; have qc2v4 : v4.cell? ⟨w.heap.size, 2, none⟩ = some (.bool false) := c_4.cell 2; have qc3v4 : v4.cell? ⟨w.heap.size, 3, none⟩ = some (.int .i64 m) := c_4.cell 3; have qx0v4 : v4.cell? ⟨v3.heap.size, 0, none⟩ = some (.int .i64 u9) := x_4.cell 0; have qx1v4 : v4.cell? ⟨v3.heap.size, 1, none⟩ = some (.bool false) := x_4.cell 1; have qx2v4 : v4.cell? ⟨v3.heap.size, 2, none⟩ = some (.bool false) := x_4.cell 2; have qx3v4 : v4.cell? ⟨v3.heap.size, 3, none⟩ = some (.int .i64 m9) := x_4.cell 3
                                go_wp2_with (first
                                  | (refine wpListG_load (by rfl) 23 (.tmp 2) rfl (w.heap.size) rfl 23 (crC (u, a, false, m)) _ c_4 Try.underlying23 rfl (cr_inf _) ?_)
                                  | (go_at_call 14; refine (HE.out _).mono ?_; clear HE; rintro e v5 ⟨rfl, g5⟩; have hB5 := hB4.trans (g5.mono hB4.size); have c_5 := c_4.below (g5) c_4.lt; have x_5 := x_4.below (g5) x_4.lt; clear c_4 x_4
                                     go_wp2_with (first
                                       | (refine wpList_store_blk rfl 23 (.tmp 7) (.tmp 63) rfl v5.heap.size (crC cr0) (crC cr0) 23 rfl rfl (Blk.new _ _ _) rfl (cr_inf _) (cr_one _) ?_; intro v6 y_6 g6; have hB6 := hB5.trans ((newC rfl g6).mono hB5.size); have c_6 := c_5.below (newC rfl g6) c_5.lt; have x_6 := x_5.below (newC rfl g6) x_5.lt; clear c_5 x_5))))))))))))
            go_ret
            exact ⟨rfl, hB6⟩
        · skip
          have hub : ub = false := by rw [hu, h1]; rfl
          subst hub
          simp only [if_true, if_false, Bool.false_eq_true] at HE HE2
          clear hu
          go_enter Try.func7, Try.ntmps7
          go_wp2_with (first
            | (go_at_call 8; refine (HW.out _).mono ?_; clear HW; rintro e v1 ⟨rfl, g1⟩; have hB1 := B0.trans (g1.mono B0.size); have c_1 := k0.below (g1) k0.lt; clear k0
               go_wp2_with (first
                 | (refine wpListG_load (by rfl) 23 (.tmp 2) rfl (w.heap.size) rfl 23 (crC (u, a, false, m)) _ c_1 Try.underlying23 rfl (cr_inf _) ?_)
                 | (go_at_call 9; refine (HC.out _).mono ?_; clear HC; rintro e v2 ⟨rfl, g2⟩; have hB2 := hB1.trans (g2.mono hB1.size); have c_2 := c_1.below (g2) c_1.lt; clear c_1; have qc0v2 : v2.cell? ⟨w.heap.size, 0, none⟩ = some (.int .i64 u) := c_2.cell 0
                    go_wp2_with (first
                      | (refine wpListG_load (by rfl) 23 (.tmp 2) rfl (w.heap.size) rfl 23 (crC (u, a, false, m)) _ c_2 Try.underlying23 rfl (cr_inf _) ?_)
                      | (go_at_call 18; refine (HD'.out _).mono ?_; clear HD'; rintro e v3 ⟨rfl, g3⟩; have hB3 := hB2.trans (g3.mono hB2.size); have c_3 := c_2.below (g3) c_2.lt; clear c_2
                         go_wp2_with (first
                           | (refine wpList_store_blk rfl 23 (.tmp 5) (.tmp 24) rfl v3.heap.size (crC cr0) (crC (u9, false, false, m9)) 23 rfl rfl (Blk.new _ _ _) rfl (cr_inf _) (cr_one _) ?_; intro v4 x_4 g4; have hB4 := hB3.trans ((newC rfl g4).mono hB3.size); have c_4 := c_3.below (newC rfl g4) c_3.lt; clear c_3; have qc0v4 : v4.cell? ⟨w.heap.size, 0, none⟩ = some (.int .i64 u) := c_4.cell 0; have qc1v4 : v4.cell? ⟨w.heap.size, 1, none⟩ = some (.bool a) := c_4.cell 1; have qc2v4 : v4.cell? ⟨w.heap.size, 2, none⟩ = some (.bool false) := c_4.cell 2; have qc3v4 : v4.cell? ⟨w.heap.size, 3, none⟩ = some (.int .i64 m) := c_4.cell 3; have qx0v4 : v4.cell? ⟨v3.heap.size, 0, none⟩ = some (.int .i64 u9) := x_4.cell 0; have qx1v4 : v4.cell? ⟨v3.heap.size, 1, none⟩ = some (.bool false) := x_4.cell 1; have qx2v4 : v4.cell? ⟨v3.heap.size, 2, none⟩ = some (.bool false) := x_4.cell 2; have qx3v4 : v4.cell? ⟨v3.heap.size, 3, none⟩ = some (.int .i64 m9) := x_4.cell 3
                              go_wp2_with (first
                                | (refine wpListG_load (by rfl) 23 (.tmp 2) rfl (w.heap.size) rfl 23 (crC (u, a, false, m)) _ c_4 Try.underlying23 rfl (cr_inf _) ?_)
                                | (go_at_call 14; refine (HE.out _).mono ?_; clear HE; rintro e v5 ⟨rfl, g5⟩; have hB5 := hB4.trans (g5.mono hB4.size); have c_5 := c_4.below (g5) c_4.lt; have x_5 := x_4.below (g5) x_4.lt; clear c_4 x_4
                                   go_wp2_with (first
                                     | (refine wpList_store_blk rfl 23 (.tmp 7) (.tmp 63) rfl v5.heap.size (crC cr0) (crC cr0) 23 rfl rfl (Blk.new _ _ _) rfl (cr_inf _) (cr_one _) ?_; intro v6 y_6 g6; have hB6 := hB5.trans ((newC rfl g6).mono hB5.size); have c_6 := c_5.below (newC rfl g6) c_5.lt; have x_6 := x_5.below (newC rfl g6) x_5.lt; clear c_5 x_5))))))))))))
          go_ret
          exact ⟨rfl, hB6⟩
      · skip
        cases h1 : decide (o < 0)
        · cases h2 : decide (9 < o)
          · skip
            have hub : ub = true := by rw [hu, h1, h2]; rfl
            subst hub
            simp only [if_true, if_false, Bool.false_eq_true] at HE HE2
            clear hu
            go_enter Try.func7, Try.ntmps7
            go_wp2_with (first
              | (go_at_call 8; refine (HW.out _).mono ?_; clear HW; rintro e v1 ⟨rfl, g1⟩; have hB1 := B0.trans (g1.mono B0.size); have c_1 := k0.below (g1) k0.lt; clear k0
                 go_wp2_with (first
                   | (refine wpListG_load (by rfl) 23 (.tmp 2) rfl (w.heap.size) rfl 23 (crC (u, a, true, m)) _ c_1 Try.underlying23 rfl (cr_inf _) ?_)
                   | (go_at_call 9; refine (HC.out _).mono ?_; clear HC; rintro e v2 ⟨rfl, g2⟩; have hB2 := hB1.trans (g2.mono hB1.size); have c_2 := c_1.below (g2) c_1.lt; clear c_1; have qc0v2 : v2.cell? ⟨w.heap.size, 0, none⟩ = some (.int .i64 u) := c_2.cell 0
                      go_wp2_with (first
                        | (refine wpListG_load (by rfl) 23 (.tmp 2) rfl (w.heap.size) rfl 23 (crC (u, a, true, m)) _ c_2 Try.underlying23 rfl (cr_inf _) ?_)
                        | (go_at_call 18; refine (HD'.out _).mono ?_; clear HD'; rintro e v3 ⟨rfl, g3⟩; have hB3 := hB2.trans (g3.mono hB2.size); have c_3 := c_2.below (g3) c_2.lt; clear c_2
                           go_wp2_with (first
                             | (refine wpList_store_blk rfl 23 (.tmp 5) (.tmp 24) rfl v3.heap.size (crC cr0) (crC (u9, false, true, m9)) 23 rfl rfl (Blk.new _ _ _) rfl (cr_inf _) (cr_one _) ?_; intro v4 x_4 g4; have hB4 := hB3.trans ((newC rfl g4).mono hB3.size); have c_4 := c_3.below (newC rfl g4) c_3.lt; clear c_3; have qc0v4 : v4.cell? ⟨w.heap.size, 0, none⟩ = some (.int .i64 u) := c_4.cell 0; have qc1v4 : v4.cell? ⟨w.heap.size, 1, none⟩ = some (.bool a) := c_4.cell 1; have qc2v4 : v4.cell? ⟨w.heap.size, 2, none⟩ = some (.bool true) := c_4.cell 2; have qc3v4 : v4.cell? ⟨w.heap.size, 3, none⟩ = some (.int .i64 m) := c_4.cell 3; have qx0v4 : v4.cell? ⟨v3.heap.size, 0, none⟩ = some (.int .i64 u9) := x_4.cell 0; have qx1v4 : v4.cell? ⟨v3.heap.size, 1, none⟩ = some (.bool false) := x_4.cell 1; have qx2v4 : v4.cell? ⟨v3.heap.size, 2, none⟩ = some (.bool true) := x_4.cell 2; have qx3v4 : v4.cell? ⟨v3.heap.size, 3, none⟩ = some (.int .i64 m9) := x_4.cell 3
                                go_wp2_with (first
                                  | (refine wpListG_load (by rfl) 23 (.tmp 2) rfl (w.heap.size) rfl 23 (crC (u, a, true, m)) _ c_4 Try.underlying23 rfl (cr_inf _) ?_)
                                  | (go_at_call 14; refine (HE.out _).mono ?_; clear HE; rintro e v5 ⟨rfl, g5⟩; have hB5 := hB4.trans (g5.mono hB4.size); have c_5 := c_4.below (g5) c_4.lt; have x_5 := x_4.below (g5) x_4.lt; clear c_4 x_4
                                     go_wp2_with (first
                                       | (refine wpList_store_blk rfl 23 (.tmp 7) (.tmp 63) rfl v5.heap.size (crC cr0) (crC (u, a, true, m)) 23 rfl rfl (Blk.new _ _ _) rfl (cr_inf _) (cr_one _) ?_; intro v6 y_6 g6; have hB6 := hB5.trans ((newC rfl g6).mono hB5.size); have c_6 := c_5.below (newC rfl g6) c_5.lt; have x_6 := x_5.below (newC rfl g6) x_5.lt; clear c_5 x_5
                                          go_wp2_with (first
                                            | (refine wpListG_load (by rfl) 23 (.tmp 2) rfl (w.heap.size) rfl 23 (crC (u, a, true, m)) _ c_6 Try.underlying23 rfl (cr_inf _) ?_)
                                            | (go_at_call 16; refine (HN.out _).mono ?_; clear HN; rintro e v7 ⟨rfl, g7⟩; have hB7 := hB6.trans (g7.mono hB6.size); have c_7 := c_6.below (g7) c_6.lt; have x_7 := x_6.below (g7) x_6.lt; have y_7 := y_6.below (g7) y_6.lt; clear c_6 x_6 y_6
                                               go_wp2_with (first
                                                 | (refine wpList_store_blk rfl 23 (.tmp 8) (.tmp 76) rfl v7.heap.size (crC cr0) (crC z) 23 rfl rfl (Blk.new _ _ _) rfl (cr_inf _) (cr_one _) ?_; intro v8 z_8 g8; have hB8 := hB7.trans ((newC rfl g8).mono hB7.size); have c_8 := c_7.below (newC rfl g8) c_7.lt; have x_8 := x_7.below (newC rfl g8) x_7.lt; have y_8 := y_7.below (newC rfl g8) y_7.lt; clear c_7 x_7 y_7
                                                    go_wp2_with (first
                                                      | (refine wpListG_load (by rfl) 23 (.tmp 8) rfl (v7.heap.size) rfl 23 (crC z) _ z_8 Try.underlying23 rfl (cr_inf _) ?_)
                                                      | (go_at_call 16; refine (HN2.out _).mono ?_; clear HN2; rintro e v9 ⟨rfl, g9⟩; have hB9 := hB8.trans (g9.mono hB8.size); have c_9 := c_8.below (g9) c_8.lt; have x_9 := x_8.below (g9) x_8.lt; have y_9 := y_8.below (g9) y_8.lt; have z_9 := z_8.below (g9) z_8.lt; clear c_8 x_8 y_8 z_8
                                                         go_wp2_with (first
                                                           | (refine wpList_store_blk rfl 23 (.tmp 10) (.tmp 81) rfl v9.heap.size (crC cr0) (crC z) 23 rfl rfl (Blk.new _ _ _) rfl (cr_inf _) (cr_one _) ?_; intro v10 p_10 g10; have hB10 := hB9.trans ((newC rfl g10).mono hB9.size); have c_10 := c_9.below (newC rfl g10) c_9.lt; have x_10 := x_9.below (newC rfl g10) x_9.lt; have y_10 := y_9.below (newC rfl g10) y_9.lt; have z_10 := z_9.below (newC rfl g10) z_9.lt; clear c_9 x_9 y_9 z_9
                                                              go_wp2_with (first
                                                                | (refine wpListG_load (by rfl) 23 (.tmp 8) rfl (v7.heap.size) rfl 23 (crC z) _ z_10 Try.underlying23 rfl (cr_inf _) ?_)
                                                                | (go_at_call 14; refine (HE2.out _).mono ?_; clear HE2; rintro e v11 ⟨rfl, g11⟩; have hB11 := hB10.trans (g11.mono hB10.size); have c_11 := c_10.below (g11) c_10.lt; have x_11 := x_10.below (g11) x_10.lt; have y_11 := y_10.below (g11) y_10.lt; have z_11 := z_10.below (g11) z_10.lt; have p_11 := p_10.below (g11) p_10.lt; clear c_10 x_10 y_10 z_10 p_10
                                                                   go_wp2_with (first
                                                                     | (refine wpList_store_blk rfl 23 (.tmp 12) (.tmp 88) rfl v11.heap.size (crC cr0) (crC z) 23 rfl rfl (Blk.new _ _ _) rfl (cr_inf _) (cr_one _) ?_; intro v12 q_12 g12; have hB12 := hB11.trans ((newC rfl g12).mono hB11.size); have c_12 := c_11.below (newC rfl g12) c_11.lt; have x_12 := x_11.below (newC rfl g12) x_11.lt; have y_12 := y_11.below (newC rfl g12) y_11.lt; have z_12 := z_11.below (newC rfl g12) z_11.lt; have p_12 := p_11.below (newC rfl g12) p_11.lt; clear c_11 x_11 y_11 z_11 p_11
                                                                        go_wp2_with (first
                                                                          | (refine wpListG_load (by rfl) 23 (.tmp 7) rfl (v5.heap.size) rfl 23 (crC (u, a, true, m)) _ y_12 Try.underlying23 rfl (cr_inf _) ?_)
                                                                          | (refine wpListG_load (by rfl) 23 (.tmp 2) rfl (w.heap.size) rfl 23 (crC (u, a, true, m)) _ c_12 Try.underlying23 rfl (cr_inf _) ?_)
                                                                          | (refine wpListG_eql_cr (by rfl) (.tmp 105) (.tmp 106) rfl (u, a, true, m) (u, a, true, m) rfl rfl true (sameC_self _) ?_)
                                                                          | (refine wpListG_load (by rfl) 23 (.tmp 10) rfl (v9.heap.size) rfl 23 (crC z) _ p_12 Try.underlying23 rfl (cr_inf _) ?_)
                                                                          | (refine wpListG_load (by rfl) 23 (.tmp 8) rfl (v7.heap.size) rfl 23 (crC z) _ z_12 Try.underlying23 rfl (cr_inf _) ?_)
                                                                          | (refine wpListG_eql_cr (by rfl) (.tmp 110) (.tmp 111) rfl z z rfl rfl true (sameC_self _) ?_)
                                                                          | (refine wpListG_load (by rfl) 23 (.tmp 12) rfl (v11.heap.size) rfl 23 (crC z) _ q_12 Try.underlying23 rfl (cr_inf _) ?_)
                                                                          | (refine wpListG_load (by rfl) 23 (.tmp 8) rfl (v7.heap.size) rfl 23 (crC z) _ z_12 Try.underlying23 rfl (cr_inf _) ?_)
                                                                          | (refine wpListG_eql_cr (by rfl) (.tmp 115) (.tmp 116) rfl z z rfl rfl true (sameC_self _) ?_))))))))))))))))))))))))))
            go_ret
            exact ⟨rfl, hB12⟩
          · skip
            have hub : ub = false := by rw [hu, h1, h2]; rfl
            subst hub
            simp only [if_true, if_false, Bool.false_eq_true] at HE HE2
            clear hu
            go_enter Try.func7, Try.ntmps7
            go_wp2_with (first
              | (go_at_call 8; refine (HW.out _).mono ?_; clear HW; rintro e v1 ⟨rfl, g1⟩; have hB1 := B0.trans (g1.mono B0.size); have c_1 := k0.below (g1) k0.lt; clear k0
                 go_wp2_with (first
                   | (refine wpListG_load (by rfl) 23 (.tmp 2) rfl (w.heap.size) rfl 23 (crC (u, a, true, m)) _ c_1 Try.underlying23 rfl (cr_inf _) ?_)
                   | (go_at_call 9; refine (HC.out _).mono ?_; clear HC; rintro e v2 ⟨rfl, g2⟩; have hB2 := hB1.trans (g2.mono hB1.size); have c_2 := c_1.below (g2) c_1.lt; clear c_1; have qc0v2 : v2.cell? ⟨w.heap.size, 0, none⟩ = some (.int .i64 u) := c_2.cell 0
                      go_wp2_with (first
                        | (refine wpListG_load (by rfl) 23 (.tmp 2) rfl (w.heap.size) rfl 23 (crC (u, a, true, m)) _ c_2 Try.underlying23 rfl (cr_inf _) ?_)
                        | (go_at_call 18; refine (HD'.out _).mono ?_; clear HD'; rintro e v3 ⟨rfl, g3⟩; have hB3 := hB2.trans (g3.mono hB2.size); have c_3 := c_2.below (g3) c_2.lt; clear c_2
                           go_wp2_with (first
                             | (refine wpList_store_blk rfl 23 (.tmp 5) (.tmp 24) rfl v3.heap.size (crC cr0) (crC (u9, false, true, m9)) 23 rfl rfl (Blk.new _ _ _) rfl (cr_inf _) (cr_one _) ?_; intro v4 x_4 g4; have hB4 := hB3.trans ((newC rfl g4).mono hB3.size); have c_4 := c_3.below (newC rfl g4) c_3.lt; clear c_3; have qc0v4 : v4.cell? ⟨w.heap.size, 0, none⟩ = some (.int .i64 u) := c_4.cell 0; have qc1v4 : v4.cell? ⟨w.heap.size, 1, none⟩ = some (.bool a) := c_4.cell 1; have qc2v4 : v4.cell? ⟨w.heap.size, 2, none⟩ = some (.bool true) := c_4.cell 2; have qc3v4 : v4.cell? ⟨w.heap.size, 3, none⟩ = some (.int .i64 m) := c_4.cell 3; have qx0v4 : v4.cell? ⟨v3.heap.size, 0, none⟩ = some (.int .i64 u9) := x_4.cell 0; have qx1v4 : v4.cell? ⟨v3.heap.size, 1, none⟩ = some (.bool false) := x_4.cell 1; have qx2v4 : v4.cell? ⟨v3.heap.size, 2, none⟩ = some (.bool true) := x_4.cell 2; have qx3v4 : v4.cell? ⟨v3.heap.size, 3, none⟩ = some (.int .i64 m9) := x_4.cell 3
                                go_wp2_with (first
                                  | (refine wpListG_load (by rfl) 23 (.tmp 2) rfl (w.heap.size) rfl 23 (crC (u, a, true, m)) _ c_4 Try.underlying23 rfl (cr_inf _) ?_)
                                  | (go_at_call 14; refine (HE.out _).mono ?_; clear HE; rintro e v5 ⟨rfl, g5⟩; have hB5 := hB4.trans (g5.mono hB4.size); have c_5 := c_4.below (g5) c_4.lt; have x_5 := x_4.below (g5) x_4.lt; clear c_4 x_4
                                     go_wp2_with (first
                                       | (refine wpList_store_blk rfl 23 (.tmp 7) (.tmp 63) rfl v5.heap.size (crC cr0) (crC cr0) 23 rfl rfl (Blk.new _ _ _) rfl (cr_inf _) (cr_one _) ?_; intro v6 y_6 g6; have hB6 := hB5.trans ((newC rfl g6).mono hB5.size); have c_6 := c_5.below (newC rfl g6) c_5.lt; have x_6 := x_5.below (newC rfl g6) x_5.lt; clear c_5 x_5))))))))))))
            go_ret
            exact ⟨rfl, hB6⟩
        · skip
          have hub : ub = false := by rw [hu, h1]; rfl
          subst hub
          simp only [if_true, if_false, Bool.false_eq_true] at HE HE2
          clear hu
          go_enter Try.func7, Try.ntmps7
          go_wp2_with (first
            | (go_at_call 8; refine (HW.out _).mono ?_; clear HW; rintro e v1 ⟨rfl, g1⟩; have hB1 := B0.trans (g1.mono B0.size); have c_1 := k0.below (g1) k0.lt; clear k0
               go_wp2_with (first
                 | (refine wpListG_load (by rfl) 23 (.tmp 2) rfl (w.heap.size) rfl 23 (crC (u, a, true, m)) _ c_1 Try.underlying23 rfl (cr_inf _) ?_)
                 | (go_at_call 9; refine (HC.out _).mono ?_; clear HC; rintro e v2 ⟨rfl, g2⟩; have hB2 := hB1.trans (g2.mono hB1.size); have c_2 := c_1.below (g2) c_1.lt; clear c_1; have qc0v2 : v2.cell? ⟨w.heap.size, 0, none⟩ = some (.int .i64 u) := c_2.cell 0
                    go_wp2_with (first
                      | (refine wpListG_load (by rfl) 23 (.tmp 2) rfl (w.heap.size) rfl 23 (crC (u, a, true, m)) _ c_2 Try.underlying23 rfl (cr_inf _) ?_)
                      | (go_at_call 18; refine (HD'.out _).mono ?_; clear HD'; rintro e v3 ⟨rfl, g3⟩; have hB3 := hB2.trans (g3.mono hB2.size); have c_3 := c_2.below (g3) c_2.lt; clear c_2
                         go_wp2_with (first
                           | (refine wpList_store_blk rfl 23 (.tmp 5) (.tmp 24) rfl v3.heap.size (crC cr0) (crC (u9, false, true, m9)) 23 rfl rfl (Blk.new _ _ _) rfl (cr_inf _) (cr_one _) ?_; intro v4 x_4 g4; have hB4 := hB3.trans ((newC rfl g4).mono hB3.size); have c_4 := c_3.below (newC rfl g4) c_3.lt; clear c_3; have qc0v4 : v4.cell? ⟨w.heap.size, 0, none⟩ = some (.int .i64 u) := c_4.cell 0; have qc1v4 : v4.cell? ⟨w.heap.size, 1, none⟩ = some (.bool a) := c_4.cell 1; have qc2v4 : v4.cell? ⟨w.heap.size, 2, none⟩ = some (.bool true) := c_4.cell 2; have qc3v4 : v4.cell? ⟨w.heap.size, 3, none⟩ = some (.int .i64 m) := c_4.cell 3; have qx0v4 : v4.cell? ⟨v3.heap.size, 0, none⟩ = some (.int .i64 u9) := x_4.cell 0; have qx1v4 : v4.cell? ⟨v3.heap.size, 1, none⟩ = some (.bool false) := x_4.cell 1; have qx2v4 : v4.cell? ⟨v3.heap.size, 2, none⟩ = some (.bool true) := x_4.cell 2; have qx3v4 : v4.cell? ⟨v3.heap.size, 3, none⟩ = some (.int .i64 m9) := x_4.cell 3
                              go_wp2_with (first
                                | (refine wpListG_load (by rfl) 23 (.tmp 2) rfl (w.heap.size) rfl 23 (crC (u, a, true, m)) _ c_4 Try.underlying23 rfl (cr_inf _) ?_)
                                | (go_at_call 14; refine (HE.out _).mono ?_; clear HE; rintro e v5 ⟨rfl, g5⟩; have hB5 := hB4.trans (g5.mono hB4.size); have c_5 := c_4.below (g5) c_4.lt; have x_5 := x_4.below (g5) x_4.lt; clear c_4 x_4
                                   go_wp2_with (first
                                     | (refine wpList_store_blk rfl 23 (.tmp 7) (.tmp 63) rfl v5.heap.size (crC cr0) (crC cr0) 23 rfl rfl (Blk.new _ _ _) rfl (cr_inf _) (cr_one _) ?_; intro v6 y_6 g6; have hB6 := hB5.trans ((newC rfl g6).mono hB5.size); have c_6 := c_5.below (newC rfl g6) c_5.lt; have x_6 := x_5.below (newC rfl g6) x_5.lt; clear c_5 x_5))))))))))))
          go_ret
          exact ⟨rfl, hB6⟩
    · cases n
      · skip
        cases h1 : decide (o < 0)
        · cases h2 : decide (9 < o)
          · skip
            have hub : ub = true := by rw [hu, h1, h2]; rfl
            subst hub
            simp only [if_true, if_false, Bool.false_eq_true] at HE HE2
            clear hu
            go_enter Try.func7, Try.ntmps7
            go_wp2_with (first
              | (go_at_call 8; refine (HW.out _).mono ?_; clear HW; rintro e v1 ⟨rfl, g1⟩; have hB1 := B0.trans (g1.mono B0.size); have c_1 := k0.below (g1) k0.lt; clear k0
                 go_wp2_with (first
                   | (refine wpListG_load (by rfl) 23 (.tmp 2) rfl (w.heap.size) rfl 23 (crC (u, true, false, m)) _ c_1 Try.underlying23 rfl (cr_inf _) ?_)
                   | (go_at_call 9; refine (HC.out _).mono ?_; clear HC; rintro e v2 ⟨rfl, g2⟩; have hB2 := hB1.trans (g2.mono hB1.size); have c_2 := c_1.below (g2) c_1.lt; clear c_1; have qc0v2 : v2.cell? ⟨w.heap.size, 0, none⟩ = some (.int .i64 u) := c_2.cell 0
                      go_wp2_with (first
                        | (refine wpListG_load (by rfl) 23 (.tmp 2) rfl (w.heap.size) rfl 23 (crC (u, true, false, m)) _ c_2 Try.underlying23 rfl (cr_inf _) ?_)
                        | (go_at_call 18; refine (HD'.out _).mono ?_; clear HD'; rintro e v3 ⟨rfl, g3⟩; have hB3 := hB2.trans (g3.mono hB2.size); have c_3 := c_2.below (g3) c_2.lt; clear c_2
                           go_wp2_with (first
                             | (refine wpList_store_blk rfl 23 (.tmp 5) (.tmp 24) rfl v3.heap.size (crC cr0) (crC (u9, true, false, m9)) 23 rfl rfl (Blk.new _ _ _) rfl (cr_inf _) (cr_one _) ?_; intro v4 x_4 g4; have hB4 := hB3.trans ((newC rfl g4).mono hB3.size); have c_4 := c_3.below (newC rfl g4) c_3.lt; clear c_3; have qc0v4 : v4.cell? ⟨w.heap.size, 0, none⟩ = some (.int .i64 u) := c_4.cell 0; have qc1v4 : v4.cell? ⟨w.heap.size, 1, none⟩ = some (.bool true) := c_4.cell 1; have qc2v4 : v4.cell? ⟨w.heap.size, 2, none⟩ = some (.bool false) := c_4.cell 2; have qc3v4 : v4.cell? ⟨w.heap.size, 3, none⟩ = some (.int .i64 m) := c_4.cell 3; have qx0v4 : v4.cell? ⟨v3.heap.size, 0, none⟩ = some (.int .i64 u9) := x_4.cell 0; have qx1v4 : v4.cell? ⟨v3.heap.size, 1, none⟩ = some (.bool true) := x_4.cell 1; have qx2v4 : v4.cell? ⟨v3.heap.size, 2, none⟩ = some (.bool false) := x_4.cell 2; have qx3v4 : v4.cell? ⟨v3.heap.size, 3, none⟩ = some (.int .i64 m9) := x_4.cell 3
                                go_wp2_with (first
                                  | (refine wpListG_load (by rfl) 23 (.tmp 2) rfl (w.heap.size) rfl 23 (crC (u, true, false, m)) _ c_4 Try.underlying23 rfl (cr_inf _) ?_)
                                  | (go_at_call 14; refine (HE.out _).mono ?_; clear HE; rintro e v5 ⟨rfl, g5⟩; have hB5 := hB4.trans (g5.mono hB4.size); have c_5 := c_4.below (g5) c_4.lt; have x_5 := x_4.below (g5) x_4.lt; clear c_4 x_4
                                     go_wp2_with (first
                                       | (refine wpList_store_blk rfl 23 (.tmp 7) (.tmp 63) rfl v5.heap.size (crC cr0) (crC (u, true, false, m)) 23 rfl rfl (Blk.new _ _ _) rfl (cr_inf _) (cr_one _) ?_; intro v6 y_6 g6; have hB6 := hB5.trans ((newC rfl g6).mono hB5.size); have c_6 := c_5.below (newC rfl g6) c_5.lt; have x_6 := x_5.below (newC rfl g6) x_5.lt; clear c_5 x_5
                                          go_wp2_with (first
                                            | (refine wpListG_load (by rfl) 23 (.tmp 2) rfl (w.heap.size) rfl 23 (crC (u, true, false, m)) _ c_6 Try.underlying23 rfl (cr_inf _) ?_)
                                            | (go_at_call 16; refine (HN.out _).mono ?_; clear HN; rintro e v7 ⟨rfl, g7⟩; have hB7 := hB6.trans (g7.mono hB6.size); have c_7 := c_6.below (g7) c_6.lt; have x_7 := x_6.below (g7) x_6.lt; have y_7 := y_6.below (g7) y_6.lt; clear c_6 x_6 y_6
                                               go_wp2_with (first
                                                 | (refine wpList_store_blk rfl 23 (.tmp 8) (.tmp 76) rfl v7.heap.size (crC cr0) (crC z) 23 rfl rfl (Blk.new _ _ _) rfl (cr_inf _) (cr_one _) ?_; intro v8 z_8 g8; have hB8 := hB7.trans ((newC rfl g8).mono hB7.size); have c_8 := c_7.below (newC rfl g8) c_7.lt; have x_8 := x_7.below (newC rfl g8) x_7.lt; have y_8 := y_7.below (newC rfl g8) y_7.lt; clear c_7 x_7 y_7
                                                    go_wp2_with (first
                                                      | (refine wpListG_load (by rfl) 23 (.tmp 8) rfl (v7.heap.size) rfl 23 (crC z) _ z_8 Try.underlying23 rfl (cr_inf _) ?_)
                                                      | (go_at_call 16; refine (HN2.out _).mono ?_; clear HN2; rintro e v9 ⟨rfl, g9⟩; have hB9 := hB8.trans (g9.mono hB8.size); have c_9 := c_8.below (g9) c_8.lt; have x_9 := x_8.below (g9) x_8.lt; have y_9 := y_8.below (g9) y_8.lt; have z_9 := z_8.below (g9) z_8.lt; clear c_8 x_8 y_8 z_8
                                                         go_wp2_with (first
                                                           | (refine wpList_store_blk rfl 23 (.tmp 10) (.tmp 81) rfl v9.heap.size (crC cr0) (crC z) 23 rfl rfl (Blk.new _ _ _) rfl (cr_inf _) (cr_one _) ?_; intro v10 p_10 g10; have hB10 := hB9.trans ((newC rfl g10).mono hB9.size); have c_10 := c_9.below (newC rfl g10) c_9.lt; have x_10 := x_9.below (newC rfl g10) x_9.lt; have y_10 := y_9.below (newC rfl g10) y_9.lt; have z_10 := z_9.below (newC rfl g10) z_9.lt; clear c_9 x_9 y_9 z_9
                                                              go_wp2_with (first
                                                                | (refine wpListG_load (by rfl) 23 (.tmp 8) rfl (v7.heap.size) rfl 23 (crC z) _ z_10 Try.underlying23 rfl (cr_inf _) ?_)
                                                                | (go_at_call 14; refine (HE2.out _).mono ?_; clear HE2; rintro e v11 ⟨rfl, g11⟩; have hB11 := hB10.trans (g11.mono hB10.size); have c_11 := c_10.below (g11) c_10.lt; have x_11 := x_10.below (g11) x_10.lt; have y_11 := y_10.below (g11) y_10.lt; have z_11 := z_10.below (g11) z_10.lt; have p_11 := p_10.below (g11) p_10.lt; clear c_10 x_10 y_10 z_10 p_10
                                                                   go_wp2_with (first
                                                                     | (refine wpList_store_blk rfl 23 (.tmp 12) (.tmp 88) rfl v11.heap.size (crC cr0) (crC z) 23 rfl rfl (Blk.new _ _ _) rfl (cr_inf _) (cr_one _) ?_; intro v12 q_12 g12; have hB12 := hB11.trans ((newC rfl g12).mono hB11.size); have c_12 := c_11.below (newC rfl g12) c_11.lt; have x_12 := x_11.below (newC rfl g12) x_11.lt; have y_12 := y_11.below (newC rfl g12) y_11.lt; have z_12 := z_11.below (newC rfl g12) z_11.lt; have p_12 := p_11.below (newC rfl g12) p_11.lt; clear c_11 x_11 y_11 z_11 p_11
                                                                        go_wp2_with (first
                                                                          | (refine wpListG_load (by rfl) 23 (.tmp 7) rfl (v5.heap.size) rfl 23 (crC (u, true, false, m)) _ y_12 Try.underlying23 rfl (cr_inf _) ?_)
                                                                          | (refine wpListG_load (by rfl) 23 (.tmp 2) rfl (w.heap.size) rfl 23 (crC (u, true, false, m)) _ c_12 Try.underlying23 rfl (cr_inf _) ?_)
                                                                          | (refine wpListG_eql_cr (by rfl) (.tmp 105) (.tmp 106) rfl (u, true, false, m) (u, true, false, m) rfl rfl true (sameC_self _) ?_)
                                                                          | (refine wpListG_load (by rfl) 23 (.tmp 10) rfl (v9.heap.size) rfl 23 (crC z) _ p_12 Try.underlying23 rfl (cr_inf _) ?_)
                                                                          | (refine wpListG_load (by rfl) 23 (.tmp 8) rfl (v7.heap.size) rfl 23 (crC z) _ z_12 Try.underlying23 rfl (cr_inf _) ?_)
                                                                          | (refine wpListG_eql_cr (by rfl) (.tmp 110) (.tmp 111) rfl z z rfl rfl true (sameC_self _) ?_)
                                                                          | (refine wpListG_load (by rfl) 23 (.tmp 12) rfl (v11.heap.size) rfl 23 (crC z) _ q_12 Try.underlying23 rfl (cr_inf _) ?_)
                                                                          | (refine wpListG_load (by rfl) 23 (.tmp 8) rfl (v7.heap.size) rfl 23 (crC z) _ z_12 Try.underlying23 rfl (cr_inf _) ?_)
                                                                          | (refine wpListG_eql_cr (by rfl) (.tmp 115) (.tmp 116) rfl z z rfl rfl true (sameC_self _) ?_))))))))))))))))))))))))))
            go_ret
            exact ⟨rfl, hB12⟩
          · skip
            have hub : ub = false := by rw [hu, h1, h2]; rfl
            subst hub
            simp only [if_true, if_false, Bool.false_eq_true] at HE HE2
            clear hu
            go_enter Try.func7, Try.ntmps7
            go_wp2_with (first
              | (go_at_call 8; refine (HW.out _).mono ?_; clear HW; rintro e v1 ⟨rfl, g1⟩; have hB1 := B0.trans (g1.mono B0.size); have c_1 := k0.below (g1) k0.lt; clear k0
                 go_wp2_with (first
                   | (refine wpListG_load (by rfl) 23 (.tmp 2) rfl (w.heap.size) rfl 23 (crC (u, true, false, m)) _ c_1 Try.underlying23 rfl (cr_inf _) ?_)
                   | (go_at_call 9; refine (HC.out _).mono ?_; clear HC; rintro e v2 ⟨rfl, g2⟩; have hB2 := hB1.trans (g2.mono hB1.size); have c_2 := c_1.below (g2) c_1.lt; clear c_1; have qc0v2 : v2.cell? ⟨w.heap.size, 0, none⟩ = some (.int .i64 u) := c_2.cell 0
                      go_wp2_with (first
                        | (refine wpListG_load (by rfl) 23 (.tmp 2) rfl (w.heap.size) rfl 23 (crC (u, true, false, m)) _ c_2 Try.underlying23 rfl (cr_inf _) ?_)
                        | (go_at_call 18; refine (HD'.out _).mono ?_; clear HD'; rintro e v3 ⟨rfl, g3⟩; have hB3 := hB2.trans (g3.mono hB2.size); have c_3 := c_2.below (g3) c_2.lt; clear c_2
                           go_wp2_with (first
                             | (refine wpList_store_blk rfl 23 (.tmp 5) (.tmp 24) rfl v3.heap.size (crC cr0) (crC (u9, true, false, m9)) 23 rfl rfl (Blk.new _ _ _) rfl (cr_inf _) (cr_one _) ?_; intro v4 x_4 g4; have hB4 := hB3.trans ((newC rfl g4).mono hB3.size); have c_4 := c_3.below (newC rfl g4) c_3.lt; clear c_3; have qc0v4 : v4.cell? ⟨w.heap.size, 0, none⟩ = some (.int .i64 u) := c_4.cell 0; have qc1v4 : v4.cell? ⟨w.heap.size, 1, none⟩ = some (.bool true) := c_4.cell 1; have qc2v4 : v4.cell? ⟨w.heap.size, 2, none⟩ = some (.bool false) := c_4.cell 2; have qc3v4 : v4.cell? ⟨w.heap.size, 3, none⟩ = some (.int .i64 m) := c_4.cell 3; have qx0v4 : v4.cell? ⟨v3.heap.size, 0, none⟩ = some (.int .i64 u9) := x_4.cell 0; have qx1v4 : v4.cell? ⟨v3.heap.size, 1, none⟩ = some (.bool true) := x_4.cell 1; have qx2v4 : v4.cell? ⟨v3.heap.size, 2, none⟩ = some (.bool false) := x_4.cell 2; have qx3v4 : v4.cell? ⟨v3.heap.size, 3, none⟩ = some (.int .i64 m9) := x_4.cell 3
                                go_wp2_with (first
                                  | (refine wpListG_load (by rfl) 23 (.tmp 2) rfl (w.heap.size) rfl 23 (crC (u, true, false, m)) _ c_4 Try.underlying23 rfl (cr_inf _) ?_)
                                  | (go_at_call 14; refine (HE.out _).mono ?_; clear HE; rintro e v5 ⟨rfl, g5⟩; have hB5 := hB4.trans (g5.mono hB4.size); have c_5 := c_4.below (g5) c_4.lt; have x_5 := x_4.below (g5) x_4.lt; clear c_4 x_4
                                     go_wp2_with (first
                                       | (refine wpList_store_blk rfl 23 (.tmp 7) (.tmp 63) rfl v5.heap.size (crC cr0) (crC cr0) 23 rfl rfl (Blk.new _ _ _) rfl (cr_inf _) (cr_one _) ?_; intro v6 y_6 g6; have hB6 := hB5.trans ((newC rfl g6).mono hB5.size); have c_6 := c_5.below (newC rfl g6) c_5.lt; have x_6 := x_5.below (newC rfl g6) x_5.lt; clear c_5 x_5))))))))))))
            go_ret
            exact ⟨rfl, hB6⟩
        · skip
          have hub : ub = false := by rw [hu, h1]; rfl
          subst hub
          simp only [if_true, if_false, Bool.false_eq_true] at HE HE2
          clear hu
          go_enter Try.func7, Try.ntmps7
          go_wp2_with (first
            | (go_at_call 8; refine (HW.out _).mono ?_; clear HW; rintro e v1 ⟨rfl, g1⟩; have hB1 := B0.trans (g1.mono B0.size); have c_1 := k0.below (g1) k0.lt; clear k0
               go_wp2_with (first
                 | (refine wpListG_load (by rfl) 23 (.tmp 2) rfl (w.heap.size) rfl 23 (crC (u, true, false, m)) _ c_1 Try.underlying23 rfl (cr_inf _) ?_)
                 | (go_at_call 9; refine (HC.out _).mono ?_; clear HC; rintro e v2 ⟨rfl, g2⟩; have hB2 := hB1.trans (g2.mono hB1.size); have c_2 := c_1.below (g2) c_1.lt; clear c_1; have qc0v2 : v2.cell? ⟨w.heap.size, 0, none⟩ = some (.int .i64 u) := c_2.cell 0
                    go_wp2_with (first
                      | (refine wpListG_load (by rfl) 23 (.tmp 2) rfl (w.heap.size) rfl 23 (crC (u, true, false, m)) _ c_2 Try.underlying23 rfl (cr_inf _) ?_)
                      | (go_at_call 18; refine (HD'.out _).mono ?_; clear HD'; rintro e v3 ⟨rfl, g3⟩; have hB3 := hB2.trans (g3.mono hB2.size); have c_3 := c_2.below (g3) c_2.lt; clear c_2
                         go_wp2_with (first
                           | (refine wpList_store_blk rfl 23 (.tmp 5) (.tmp 24) rfl v3.heap.size (crC cr0) (crC (u9, true, false, m9)) 23 rfl rfl (Blk.new _ _ _) rfl (cr_inf _) (cr_one _) ?_; intro v4 x_4 g4; have hB4 := hB3.trans ((newC rfl g4).mono hB3.size); have c_4 := c_3.below (newC rfl g4) c_3.lt; clear c_3; have qc0v4 : v4.cell? ⟨w.heap.size, 0, none⟩ = some (.int .i64 u) := c_4.cell 0; have qc1v4 : v4.cell? ⟨w.heap.size, 1, none⟩ = some (.bool true) := c_4.cell 1; have qc2v4 : v4.cell? ⟨w.heap.size, 2, none⟩ = some (.bool false) := c_4.cell 2; have qc3v4 : v4.cell? ⟨w.heap.size, 3, none⟩ = some (.int .i64 m) := c_4.cell 3; have qx0v4 : v4.cell? ⟨v3.heap.size, 0, none⟩ = some (.int .i64 u9) := x_4.cell 0; have qx1v4 : v4.cell? ⟨v3.heap.size, 1, none⟩ = some (.bool true) := x_4.cell 1; have qx2v4 : v4.cell? ⟨v3.heap.size, 2, none⟩ = some (.bool false) := x_4.cell 2; have qx3v4 : v4.cell? ⟨v3.heap.size, 3, none⟩ = some (.int .i64 m9) := x_4.cell 3
                              go_wp2_with (first
                                | (refine wpListG_load (by rfl) 23 (.tmp 2) rfl (w.heap.size) rfl 23 (crC (u, true, false, m)) _ c_4 Try.underlying23 rfl (cr_inf _) ?_)
                                | (go_at_call 14; refine (HE.out _).mono ?_; clear HE; rintro e v5 ⟨rfl, g5⟩; have hB5 := hB4.trans (g5.mono hB4.size); have c_5 := c_4.below (g5) c_4.lt; have x_5 := x_4.below (g5) x_4.lt; clear c_4 x_4
                                   go_wp2_with (first
                                     | (refine wpList_store_blk rfl 23 (.tmp 7) (.tmp 63) rfl v5.heap.size (crC cr0) (crC cr0) 23 rfl rfl (Blk.new _ _ _) rfl (cr_inf _) (cr_one _) ?_; intro v6 y_6 g6; have hB6 := hB5.trans ((newC rfl g6).mono hB5.size); have c_6 := c_5.below (newC rfl g6) c_5.lt; have x_6 := x_5.below (newC rfl g6) x_5.lt; clear c_5 x_5))))))))))))
          go_ret
          exact ⟨rfl, hB6⟩
      · skip
        cases h1 : decide (o < 0)
        · cases h2 : decide (9 < o)
          · skip
            have hub : ub = true := by rw [hu, h1, h2]; rfl
            subst hub
            simp only [if_true, if_false, Bool.false_eq_true] at HE HE2
            clear hu
            go_enter Try.func7, Try.ntmps7
            go_wp2_with (first
              | (go_at_call 8; refine (HW.out _).mono ?_; clear HW; rintro e v1 ⟨rfl, g1⟩; have hB1 := B0.trans (g1.mono B0.size); have c_1 := k0.below (g1) k0.lt; clear k0
                 go_wp2_with (first
                   | (refine wpListG_load (by rfl) 23 (.tmp 2) rfl (w.heap.size) rfl 23 (crC (u, true, true, m)) _ c_1 Try.underlying23 rfl (cr_inf _) ?_)
                   | (go_at_call 9; refine (HC.out _).mono ?_; clear HC; rintro e v2 ⟨rfl, g2⟩; have hB2 := hB1.trans (g2.mono hB1.size); have c_2 := c_1.below (g2) c_1.lt; clear c_1; have qc0v2 : v2.cell? ⟨w.heap.size, 0, none⟩ = some (.int .i64 u) := c_2.cell 0
                      go_wp2_with (first
                        | (refine wpListG_load (by rfl) 23 (.tmp 2) rfl (w.heap.size) rfl 23 (crC (u, true, true, m)) _ c_2 Try.underlying23 rfl (cr_inf _) ?_)
                        | (go_at_call 18; refine (HD'.out _).mono ?_; clear HD'; rintro e v3 ⟨rfl, g3⟩; have hB3 := hB2.trans (g3.mono hB2.size); have c_3 := c_2.below (g3) c_2.lt; clear c_2
                           go_wp2_with (first
                             | (refine wpList_store_blk rfl 23 (.tmp 5) (.tmp 24) rfl v3.heap.size (crC cr0) (crC (u9, true, true, m9)) 23 rfl rfl (Blk.new _ _ _) rfl (cr_inf _) (cr_one _) ?_; intro v4 x_4 g4; have hB4 := hB3.trans ((newC rfl g4).mono hB3.size); have c_4 := c_3.below (newC rfl g4) c_3.lt; clear c_3; have qc0v4 : v4.cell? ⟨w.heap.size, 0, none⟩ = some (.int .i64 u) := c_4.cell 0; have qc1v4 : v4.cell? ⟨w.heap.size, 1, none⟩ = some (.bool true) := c_4.cell 1; have qc2v4 : v4.cell? ⟨w.heap.size, 2, none⟩ = some (.bool true) := c_4.cell 2; have qc3v4 : v4.cell? ⟨w.heap.size, 3, none⟩ = some (.int .i64 m) := c_4.cell 3; have qx0v4 : v4.cell? ⟨v3.heap.size, 0, none⟩ = some (.int .i64 u9) := x_4.cell 0; have qx1v4 : v4.cell? ⟨v3.heap.size, 1, none⟩ = some (.bool true) := x_4.cell 1; have qx2v4 : v4.cell? ⟨v3.heap.size, 2, none⟩ = some (.bool true) := x_4.cell 2; have qx3v4 : v4.cell? ⟨v3.heap.size, 3, none⟩ = some (.int .i64 m9) := x_4.cell 3
                                go_wp2_with (first
                                  | (refine wpListG_load (by rfl) 23 (.tmp 2) rfl (w.heap.size) rfl 23 (crC (u, true, true, m)) _ c_4 Try.underlying23 rfl (cr_inf _) ?_)
                                  | (go_at_call 14; refine (HE.out _).mono ?_; clear HE; rintro e v5 ⟨rfl, g5⟩; have hB5 := hB4.trans (g5.mono hB4.size); have c_5 := c_4.below (g5) c_4.lt; have x_5 := x_4.below (g5) x_4.lt; clear c_4 x_4
                                     go_wp2_with (first
                                       | (refine wpList_store_blk rfl 23 (.tmp 7) (.tmp 63) rfl v5.heap.size (crC cr0) (crC (u, true, true, m)) 23 rfl rfl (Blk.new _ _ _) rfl (cr_inf _) (cr_one _) ?_; intro v6 y_6 g6; have hB6 := hB5.trans ((newC rfl g6).mono hB5.size); have c_6 := c_5.below (newC rfl g6) c_5.lt; have x_6 := x_5.below (newC rfl g6) x_5.lt; clear c_5 x_5
                                          go_wp2_with (first
                                            | (refine wpListG_load (by rfl) 23 (.tmp 2) rfl (w.heap.size) rfl 23 (crC (u, true, true, m)) _ c_6 Try.underlying23 rfl (cr_inf _) ?_)
                                            | (go_at_call 16; refine (HN.out _).mono ?_; clear HN; rintro e v7 ⟨rfl, g7⟩; have hB7 := hB6.trans (g7.mono hB6.size); have c_7 := c_6.below (g7) c_6.lt; have x_7 := x_6.below (g7) x_6.lt; have y_7 := y_6.below (g7) y_6.lt; clear c_6 x_6 y_6
                                               go_wp2_with (first
                                                 | (refine wpList_store_blk rfl 23 (.tmp 8) (.tmp 76) rfl v7.heap.size (crC cr0) (crC z) 23 rfl rfl (Blk.new _ _ _) rfl (cr_inf _) (cr_one _) ?_; intro v8 z_8 g8; have hB8 := hB7.trans ((newC rfl g8).mono hB7.size); have c_8 := c_7.below (newC rfl g8) c_7.lt; have x_8 := x_7.below (newC rfl g8) x_7.lt; have y_8 := y_7.below (newC rfl g8) y_7.lt; clear c_7 x_7 y_7
                                                    go_wp2_with (first
                                                      | (refine wpListG_load (by rfl) 23 (.tmp 8) rfl (v7.heap.size) rfl 23 (crC z) _ z_8 Try.underlying23 rfl (cr_inf _) ?_)
                                                      | (go_at_call 16; refine (HN2.out _).mono ?_; clear HN2; rintro e v9 ⟨rfl, g9⟩; have hB9 := hB8.trans (g9.mono hB8.size); have c_9 := c_8.below (g9) c_8.lt; have x_9 := x_8.below (g9) x_8.lt; have y_9 := y_8.below (g9) y_8.lt; have z_9 := z_8.below (g9) z_8.lt; clear c_8 x_8 y_8 z_8
                                                         go_wp2_with (first
                                                           | (refine wpList_store_blk rfl 23 (.tmp 10) (.tmp 81) rfl v9.heap.size (crC cr0) (crC z) 23 rfl rfl (Blk.new _ _ _) rfl (cr_inf _) (cr_one _) ?_; intro v10 p_10 g10; have hB10 := hB9.trans ((newC rfl g10).mono hB9.size); have c_10 := c_9.below (newC rfl g10) c_9.lt; have x_10 := x_9.below (newC rfl g10) x_9.lt; have y_10 := y_9.below (newC rfl g10) y_9.lt; have z_10 := z_9.below (newC rfl g10) z_9.lt; clear c_9 x_9 y_9 z_9
                                                              go_wp2_with (first
                                                                | (refine wpListG_load (by rfl) 23 (.tmp 8) rfl (v7.heap.size) rfl 23 (crC z) _ z_10 Try.underlying23 rfl (cr_inf _) ?_)
                                                                | (go_at_call 14; refine (HE2.out _).mono ?_; clear HE2; rintro e v11 ⟨rfl, g11⟩; have hB11 := hB10.trans (g11.mono hB10.size); have c_11 := c_10.below (g11) c_10.lt; have x_11 := x_10.below (g11) x_10.lt; have y_11 := y_10.below (g11) y_10.lt; have z_11 := z_10.below (g11) z_10.lt; have p_11 := p_10.below (g11) p_10.lt; clear c_10 x_10 y_10 z_10 p_10
                                                                   go_wp2_with (first
                                                                     | (refine wpList_store_blk rfl 23 (.tmp 12) (.tmp 88) rfl v11.heap.size (crC cr0) (crC z) 23 rfl rfl (Blk.new _ _ _) rfl (cr_inf _) (cr_one _) ?_; intro v12 q_12 g12; have hB12 := hB11.trans ((newC rfl g12).mono hB11.size); have c_12 := c_11.below (newC rfl g12) c_11.lt; have x_12 := x_11.below (newC rfl g12) x_11.lt; have y_12 := y_11.below (newC rfl g12) y_11.lt; have z_12 := z_11.below (newC rfl g12) z_11.lt; have p_12 := p_11.below (newC rfl g12) p_11.lt; clear c_11 x_11 y_11 z_11 p_11
                                                                        go_wp2_with (first
                                                                          | (refine wpListG_load (by rfl) 23 (.tmp 7) rfl (v5.heap.size) rfl 23 (crC (u, true, true, m)) _ y_12 Try.underlying23 rfl (cr_inf _) ?_)
                                                                          | (refine wpListG_load (by rfl) 23 (.tmp 2) rfl (w.heap.size) rfl 23 (crC (u, true, true, m)) _ c_12 Try.underlying23 rfl (cr_inf _) ?_)
                                                                          | (refine wpListG_eql_cr (by rfl) (.tmp 105) (.tmp 106) rfl (u, true, true, m) (u, true, true, m) rfl rfl true (sameC_self _) ?_)
                                                                          | (refine wpListG_load (by rfl) 23 (.tmp 10) rfl (v9.heap.size) rfl 23 (crC z) _ p_12 Try.underlying23 rfl (cr_inf _) ?_)
                                                                          | (refine wpListG_load (by rfl) 23 (.tmp 8) rfl (v7.heap.size) rfl 23 (crC z) _ z_12 Try.underlying23 rfl (cr_inf _) ?_)
                                                                          | (refine wpListG_eql_cr (by rfl) (.tmp 110) (.tmp 111) rfl z z rfl rfl true (sameC_self _) ?_)
                                                                          | (refine wpListG_load (by rfl) 23 (.tmp 12) rfl (v11.heap.size) rfl 23 (crC z) _ q_12 Try.underlying23 rfl (cr_inf _) ?_)
                                                                          | (refine wpListG_load (by rfl) 23 (.tmp 8) rfl (v7.heap.size) rfl 23 (crC z) _ z_12 Try.underlying23 rfl (cr_inf _) ?_)
                                                                          | (refine wpListG_eql_cr (by rfl) (.tmp 115) (.tmp 116) rfl z z rfl rfl true (sameC_self _) ?_))))))))))))))))))))))))))
            go_ret
            exact ⟨rfl, hB12⟩
          · skip
            have hub : ub = false := by rw [hu, h1, h2]; rfl
            subst hub
            simp only [if_true, if_false, Bool.false_eq_true] at HE HE2
            clear hu
            go_enter Try.func7, Try.ntmps7
            go_wp2_with (first
              | (go_at_call 8; refine (HW.out _).mono ?_; clear HW; rintro e v1 ⟨rfl, g1⟩; have hB1 := B0.trans (g1.mono B0.size); have c_1 := k0.below (g1) k0.lt; clear k0
                 go_wp2_with (first
                   | (refine wpListG_load (by rfl) 23 (.tmp 2) rfl (w.heap.size) rfl 23 (crC (u, true, true, m)) _ c_1 Try.underlying23 rfl (cr_inf _) ?_)
                   | (go_at_call 9; refine (HC.out _).mono ?_; clear HC; rintro e v2 ⟨rfl, g2⟩; have hB2 := hB1.trans (g2.mono hB1.size); have c_2 := c_1.below (g2) c_1.lt; clear c_1; have qc0v2 : v2.cell? ⟨w.heap.size, 0, none⟩ = some (.int .i64 u) := c_2.cell 0
                      go_wp2_with (first
                        | (refine wpListG_load (by rfl) 23 (.tmp 2) rfl (w.heap.size) rfl 23 (crC (u, true, true, m)) _ c_2 Try.underlying23 rfl (cr_inf _) ?_)
                        | (go_at_call 18; refine (HD'.out _).mono ?_; clear HD'; rintro e v3 ⟨rfl, g3⟩; have hB3 := hB2.trans (g3.mono hB2.size); have c_3 := c_2.below (g3) c_2.lt; clear c_2
                           go_wp2_with (first
                             | (refine wpList_store_blk rfl 23 (.tmp 5) (.tmp 24) rfl v3.heap.size (crC cr0) (crC (u9, true, true, m9)) 23 rfl rfl (Blk.new _ _ _) rfl (cr_inf _) (cr_one _) ?_; intro v4 x_4 g4; have hB4 := hB3.trans ((newC rfl g4).mono hB3.size); have c_4 := c_3.below (newC rfl g4) c_3.lt; clear c_3; have qc0v4 : v4.cell? ⟨w.heap.size, 0, none⟩ = some (.int .i64 u) := c_4.cell 0; have qc1v4 : v4.cell? ⟨w.heap.size, 1, none⟩ = some (.bool true) := c_4.cell 1; have qc2v4 : v4.cell? ⟨w.heap.size, 2, none⟩ = some (.bool true) := c_4.cell 2; have qc3v4 : v4.cell? ⟨w.heap.size, 3, none⟩ = some (.int .i64 m) := c_4.cell 3; have qx0v4 : v4.cell? ⟨v3.heap.size, 0, none⟩ = some (.int .i64 u9) := x_4.cell 0; have qx1v4 : v4.cell? ⟨v3.heap.size, 1, none⟩ = some (.bool true) := x_4.cell 1; have qx2v4 : v4.cell? ⟨v3.heap.size, 2, none⟩ = some (.bool true) := x_4.cell 2; have qx3v4 : v4.cell? ⟨v3.heap.size, 3, none⟩ = some (.int .i64 m9) := x_4.cell 3
                                go_wp2_with (first
                                  | (refine wpListG_load (by rfl) 23 (.tmp 2) rfl (w.heap.size) rfl 23 (crC (u, true, true, m)) _ c_4 Try.underlying23 rfl (cr_inf _) ?_)
                                  | (go_at_call 14; refine (HE.out _).mono ?_; clear HE; rintro e v5 ⟨rfl, g5⟩; have hB5 := hB4.trans (g5.mono hB4.size); have c_5 := c_4.below (g5) c_4.lt; have x_5 := x_4.below (g5) x_4.lt; clear c_4 x_4
                                     go_wp2_with (first
                                       | (refine wpList_store_blk rfl 23 (.tmp 7) (.tmp 63) rfl v5.heap.size (crC cr0) (crC cr0) 23 rfl rfl (Blk.new _ _ _) rfl (cr_inf _) (cr_one _) ?_; intro v6 y_6 g6; have hB6 := hB5.trans ((newC rfl g6).mono hB5.size); have c_6 := c_5.below (newC rfl g6) c_5.lt; have x_6 := x_5.below (newC rfl g6) x_5.lt; clear c_5 x_5))))))))))))
            go_ret
            exact ⟨rfl, hB6⟩
        · skip
          have hub : ub = false := by rw [hu, h1]; rfl
          subst hub
          simp only [if_true, if_false, Bool.false_eq_true] at HE HE2
          clear hu
          go_enter Try.func7, Try.ntmps7
          go_wp2_with (first
            | (go_at_call 8; refine (HW.out _).mono ?_; clear HW; rintro e v1 ⟨rfl, g1⟩; have hB1 := B0.trans (g1.mono B0.size); have c_1 := k0.below (g1) k0.lt; clear k0
               go_wp2_with (first
                 | (refine wpListG_load (by rfl) 23 (.tmp 2) rfl (w.heap.size) rfl 23 (crC (u, true, true, m)) _ c_1 Try.underlying23 rfl (cr_inf _) ?_)
                 | (go_at_call 9; refine (HC.out _).mono ?_; clear HC; rintro e v2 ⟨rfl, g2⟩; have hB2 := hB1.trans (g2.mono hB1.size); have c_2 := c_1.below (g2) c_1.lt; clear c_1; have qc0v2 : v2.cell? ⟨w.heap.size, 0, none⟩ = some (.int .i64 u) := c_2.cell 0
                    go_wp2_with (first
                      | (refine wpListG_load (by rfl) 23 (.tmp 2) rfl (w.heap.size) rfl 23 (crC (u, true, true, m)) _ c_2 Try.underlying23 rfl (cr_inf _) ?_)
                      | (go_at_call 18; refine (HD'.out _).mono ?_; clear HD'; rintro e v3 ⟨rfl, g3⟩; have hB3 := hB2.trans (g3.mono hB2.size); have c_3 := c_2.below (g3) c_2.lt; clear c_2
                         go_wp2_with (first
                           | (refine wpList_store_blk rfl 23 (.tmp 5) (.tmp 24) rfl v3.heap.size (crC cr0) (crC (u9, true, true, m9)) 23 rfl rfl (Blk.new _ _ _) rfl (cr_inf _) (cr_one _) ?_; intro v4 x_4 g4; have hB4 := hB3.trans ((newC rfl g4).mono hB3.size); have c_4 := c_3.below (newC rfl g4) c_3.lt; clear c_3; have qc0v4 : v4.cell? ⟨w.heap.size, 0, none⟩ = some (.int .i64 u) := c_4.cell 0; have qc1v4 : v4.cell? ⟨w.heap.size, 1, none⟩ = some (.bool true) := c_4.cell 1; have qc2v4 : v4.cell? ⟨w.heap.size, 2, none⟩ = some (.bool true) := c_4.cell 2; have qc3v4 : v4.cell? ⟨w.heap.size, 3, none⟩ = some (.int .i64 m) := c_4.cell 3; have qx0v4 : v4.cell? ⟨v3.heap.size, 0, none⟩ = some (.int .i64 u9) := x_4.cell 0; have qx1v4 : v4.cell? ⟨v3.heap.size, 1, none⟩ = some (.bool true) := x_4.cell 1; have qx2v4 : v4.cell? ⟨v3.heap.size, 2, none⟩ = some (.bool true) := x_4.cell 2; have qx3v4 : v4.cell? ⟨v3.heap.size, 3, none⟩ = some (.int .i64 m9) := x_4.cell 3
                              go_wp2_with (first
                                | (refine wpListG_load (by rfl) 23 (.tmp 2) rfl (w.heap.size) rfl 23 (crC (u, true, true, m)) _ c_4 Try.underlying23 rfl (cr_inf _) ?_)
                                | (go_at_call 14; refine (HE.out _).mono ?_; clear HE; rintro e v5 ⟨rfl, g5⟩; have hB5 := hB4.trans (g5.mono hB4.size); have c_5 := c_4.below (g5) c_4.lt; have x_5 := x_4.below (g5) x_4.lt; clear c_4 x_4
                                   go_wp2_with (first
                                     | (refine wpList_store_blk rfl 23 (.tmp 7) (.tmp 63) rfl v5.heap.size (crC cr0) (crC cr0) 23 rfl rfl (Blk.new _ _ _) rfl (cr_inf _) (cr_one _) ?_; intro v6 y_6 g6; have hB6 := hB5.trans ((newC rfl g6).mono hB5.size); have c_6 := c_5.below (newC rfl g6) c_5.lt; have x_6 := x_5.below (newC rfl g6) x_5.lt; clear c_5 x_5))))))))))))
          go_ret
          exact ⟨rfl, hB6⟩
  · rw [hk] at HC
    unfold crV at *
    go_enter Try.func7, Try.ntmps7
    go_wp2_with (first
      | (refine (HW.out _).mono ?_; clear HW; rintro e v1 ⟨rfl, g1⟩; have hB1 := B0.trans (g1.mono B0.size); have c_1 := k0.below (g1) k0.lt; clear k0
         go_wp2_with (first
           | (refine wpListG_load (by rfl) 23 (.tmp 2) rfl (w.heap.size) rfl 23 (crC c) _ c_1 Try.underlying23 rfl (cr_inf _) ?_)
           | (refine (HC.out _).mono ?_; clear HC; rintro e v2 ⟨rfl, g2⟩; have hB2 := hB1.trans (g2.mono hB1.size); have c_2 := c_1.below (g2) c_1.lt; clear c_1))))
    go_ret
    exact ⟨rfl, hB2⟩
end Go.Proofs.Yteoeflainejaaaa
