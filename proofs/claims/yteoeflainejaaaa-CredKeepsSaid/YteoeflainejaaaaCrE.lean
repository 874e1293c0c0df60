/-
  cred.Exec$1, Drop$1; the calls that change credentials.
-/
import Derived.Test.YteoeflainejaaaaCr
import Derived.BigQuiet
namespace Go.Proofs.Yteoeflainejaaaa
open Go.RowKit Go.Shelf
set_option linter.unusedVariables false
set_option linter.unusedSimpArgs false

theorem But.drewN {g : Nat} {w w' : World} (h : But g w w') (n : Nat) : But g w (w'.drewN n) := ⟨h.os, h.tape, h.output, h.size, h.block⟩
set_option maxRecDepth 100000 in
theorem ex1_cr (c : Cr) (o : Int) (s : Bool) (g gf : Nat) (hne : gf ≠ g) : ChgAt 28 #[.pointer (some ⟨gf, 0, none⟩)] (fun V => Blk V gf #[.int .i64 o, .bool s] 31) g c (exC c o s) := by
  intro V kf k
  obtain ⟨u, a, n, m⟩ := c
  have hu := user_cr o V
  have q0 : V.cell? ⟨gf, 0, none⟩ = some (.int .i64 o) := kf.cell 0
  unfold exC
  simp only
  generalize userC o = ub at hu ⊢
  cases ub
  · go_enter Try.func28, Try.ntmps28
    go_wp2_with (refine hu.mono ?_; rintro e w1 ⟨rfl, b1⟩)
    go_ret
    exact ⟨rfl, k.below b1 k.lt, But.of_below b1 g⟩
  · have tail : ∀ w1, Below V.heap.size V w1 → Blk w1 gf #[.int .i64 o, .bool s] 31 ∧ Blk w1 g (crC (u, a, n, m)) 23 ∧ But g V w1 := fun w1 b1 => ⟨kf.below b1 kf.lt, k.below b1 k.lt, But.of_below b1 g⟩
    cases s
    · go_enter Try.func28, Try.ntmps28
      go_wp2_with (refine hu.mono ?_; rintro e w1 ⟨rfl, b1⟩; obtain ⟨kf1, k1, n1⟩ := tail w1 b1; have q1 : w1.cell? ⟨gf, 1, none⟩ = some (.bool false) := kf1.cell 1)
      go_ret
      exact ⟨rfl, k1, n1⟩
    · cases n
      · obtain ⟨ob, hob⟩ : ∃ ob, (o == 0) = ob := ⟨_, rfl⟩
        rw [hob]
        go_enter Try.func28, Try.ntmps28
        go_wp2_with (refine hu.mono ?_; rintro e w1 ⟨rfl, b1⟩; obtain ⟨kf1, k1, n1⟩ := tail w1 b1; have q1 : w1.cell? ⟨gf, 1, none⟩ = some (.bool true) := kf1.cell 1; have q2 : w1.cell? ⟨g, 2, none⟩ = some (.bool false) := k1.cell 2)
        have q4 : w1.cell? ⟨gf, 0, none⟩ = some (.int .i64 o) := kf1.cell 0
        have q5 : w1.cell? ⟨g, 0, none⟩ = some (.int .i64 u) := k1.cell 0
        have q6 : w1.cell? ⟨g, 1, none⟩ = some (.bool a) := k1.cell 1
        have f5 := k1.frozen 0
        have f6 := k1.frozen 1
        go_region
        all_goals
          go_wp2_with fail
          go_ret
          exact ⟨rfl, ((k1.set_ 0 (.int .i64 o)).set_ 1 (.bool ob)).drew, ((n1.setCell (p := ⟨g, 0, none⟩) (.inl rfl) _).setCell (p := ⟨g, 1, none⟩) (.inl rfl) _).drew⟩
      · go_enter Try.func28, Try.ntmps28
        go_wp2_with (refine hu.mono ?_; rintro e w1 ⟨rfl, b1⟩; obtain ⟨kf1, k1, n1⟩ := tail w1 b1; have q1 : w1.cell? ⟨gf, 1, none⟩ = some (.bool true) := kf1.cell 1; have q2 : w1.cell? ⟨g, 2, none⟩ = some (.bool true) := k1.cell 2)
        go_ret
        exact ⟨rfl, k1, n1⟩
set_option maxRecDepth 100000 in
theorem dr1_cr (c : Cr) (o : Int) (g gu : Nat) (hne : gu ≠ g) : ChgAt 30 #[.pointer (some ⟨gu, 0, none⟩)] (fun V => Blk V gu #[.int .i64 o] 3) g c (drC c o) := by
  intro V kf k
  obtain ⟨u, a, n, m⟩ := c
  have hu := user_cr o V
  have q0 : V.cell? ⟨gu, 0, none⟩ = some (.int .i64 o) := kf.cell 0
  unfold drC
  simp only
  generalize userC o = ub at hu ⊢
  cases ub
  · go_enter Try.func30, Try.ntmps30
    go_wp2_with (refine hu.mono ?_; rintro e w1 ⟨rfl, b1⟩)
    go_ret
    exact ⟨rfl, k.below b1 k.lt, But.of_below b1 g⟩
  · have tail : ∀ w1, Below V.heap.size V w1 → Blk w1 gu #[.int .i64 o] 3 ∧ Blk w1 g (crC (u, a, n, m)) 23 ∧ But g V w1 := fun w1 b1 => ⟨kf.below b1 kf.lt, k.below b1 k.lt, But.of_below b1 g⟩
    obtain ⟨ob, hob⟩ : ∃ ob, (o == 0) = ob := ⟨_, rfl⟩
    rw [hob]
    cases a
    · cases h1 : (o != u)
      · go_enter Try.func30, Try.ntmps30
        go_wp2_with (refine hu.mono ?_; rintro e w1 ⟨rfl, b1⟩; obtain ⟨kf1, k1, n1⟩ := tail w1 b1; have q4 : w1.cell? ⟨gu, 0, none⟩ = some (.int .i64 o) := kf1.cell 0; have q5 : w1.cell? ⟨g, 0, none⟩ = some (.int .i64 u) := k1.cell 0; have q6 : w1.cell? ⟨g, 1, none⟩ = some (.bool false) := k1.cell 1; have f5 := k1.frozen 0; have f6 := k1.frozen 1)
        go_quiet (fail)
        go_wp2_with fail
        go_region
        all_goals
          go_wp2_with fail
          go_ret
          exact ⟨rfl, (((k1.drewN _).set_ 0 (.int .i64 o)).set_ 1 (.bool false)), ((n1.drewN _).setCell (p := ⟨g, 0, none⟩) (.inl rfl) _).setCell (p := ⟨g, 1, none⟩) (.inl rfl) _⟩
      · go_enter Try.func30, Try.ntmps30
        go_wp2_with (refine hu.mono ?_; rintro e w1 ⟨rfl, b1⟩; obtain ⟨kf1, k1, n1⟩ := tail w1 b1; have q4 : w1.cell? ⟨gu, 0, none⟩ = some (.int .i64 o) := kf1.cell 0; have q5 : w1.cell? ⟨g, 0, none⟩ = some (.int .i64 u) := k1.cell 0; have q6 : w1.cell? ⟨g, 1, none⟩ = some (.bool false) := k1.cell 1; have f5 := k1.frozen 0; have f6 := k1.frozen 1)
        go_quiet (fail)
        go_wp2_with fail
        go_ret
        exact ⟨rfl, k1.drewN _, n1.drewN _⟩
    · go_enter Try.func30, Try.ntmps30
      go_wp2_with (refine hu.mono ?_; rintro e w1 ⟨rfl, b1⟩; obtain ⟨kf1, k1, n1⟩ := tail w1 b1; have q4 : w1.cell? ⟨gu, 0, none⟩ = some (.int .i64 o) := kf1.cell 0; have q5 : w1.cell? ⟨g, 0, none⟩ = some (.int .i64 u) := k1.cell 0; have q6 : w1.cell? ⟨g, 1, none⟩ = some (.bool true) := k1.cell 1; have f5 := k1.frozen 0; have f6 := k1.frozen 1)
      go_quiet (fail)
      go_wp2_with fail
      go_region
      all_goals
        go_wp2_with fail
        go_ret
        exact ⟨rfl, (((k1.drewN _).set_ 0 (.int .i64 o)).set_ 1 (.bool ob)), ((n1.drewN _).setCell (p := ⟨g, 0, none⟩) (.inl rfl) _).setCell (p := ⟨g, 1, none⟩) (.inl rfl) _⟩
set_option maxRecDepth 100000 in
theorem exec_cr (c : Cr) (o : Int) (s : Bool) (w : World) : Calls Try.prog 14 #[crV c, .agg #[.int .i64 o, .bool s]] w fun e w' => e = .returned (.tuple #[crV (chgC c (exC c o s)).1, .int .i64 (chgC c (exC c o s)).2]) ∧ Below w.heap.size w w' := by
  have k0 := ((Blk.new w (crC c) 23).alloc (.cells #[.int .i64 o, .bool s] 31)).alloc (.cells (crC cr0) 23)
  have k1 := (Blk.new_ (w.alloc (.cells (crC c) 23)) #[.int .i64 o, .bool s] 31 (n := w.heap.size + 1) (by simp)).alloc (.cells (crC cr0) 23)
  have k2 := Blk.new_ ((w.alloc (.cells (crC c) 23)).alloc (.cells #[.int .i64 o, .bool s] 31)) (crC cr0) 23 (n := w.heap.size + 1 + 1) (by simp)
  have B0 := (((Below.refl w.heap.size w).alloc (Nat.le_refl _) (.cells (crC c) 23)).alloc (by simp) (.cells #[.int .i64 o, .bool s] 31)).alloc (by simp; omega) (.cells (crC cr0) 23)
  have CH := changed_cr 28 #[.pointer (some ⟨w.heap.size + 1, 0, none⟩)] c (exC c o s) (((w.alloc (.cells (crC c) 23)).alloc (.cells #[.int .i64 o, .bool s] 31)).alloc (.cells (crC cr0) 23))
    (enters_of Try.func28 (by kernel_rfl) rfl) (fun V hV hk => ex1_cr c o s _ _ (by have := k1.lt; omega) V (k1.below hV k1.lt) hk)
  generalize chgC c (exC c o s) = r at CH ⊢
  unfold crV at CH ⊢
  go_enter Try.func14, Try.ntmps14
  go_wp2_with (first
    | (refine wpList_load_row rfl 23 (.tmp 2) rfl w.heap.size rfl 23 (crC c) (0, 0) _ k0.blk Try.underlying23 rfl (cr_inf c) ?_)
    | (refine CH.mono ?_; rintro e w1 ⟨rfl, bb⟩
       have k21 := k2.below bb k2.lt)
    | (refine wpList_store_blk rfl 23 (.tmp 4) (.tmp 9) rfl (w.heap.size + 1 + 1) (crC cr0) (crC r.1) 23 rfl rfl k21 rfl (cr_inf _) (cr_one _) ?_
       intro w3 h3 n3))
  refine bodyPost_ret (results_row_tmp rfl _ _ (w.heap.size + 1 + 1) 23 (crC r.1) (0, 0) _ rfl h3.blk Try.underlying23 rfl (cr_inf _) _ rfl) rfl ?_
  exact ⟨rfl, (B0.trans (bb.mono B0.size)).trans (n3.below _ (by omega) (B0.trans (bb.mono B0.size)).size)⟩
set_option maxRecDepth 100000 in
theorem drop_cr (c : Cr) (o : Int) (w : World) : Calls Try.prog 18 #[crV c, .int .i64 o] w fun e w' => e = .returned (.tuple #[crV (chgC c (drC c o)).1, .int .i64 (chgC c (drC c o)).2]) ∧ Below w.heap.size w w' := by
  have k0 := ((Blk.new w (crC c) 23).alloc (.cells #[.int .i64 o] 3)).alloc (.cells (crC cr0) 23)
  have k1 := (Blk.new_ (w.alloc (.cells (crC c) 23)) #[.int .i64 o] 3 (n := w.heap.size + 1) (by simp)).alloc (.cells (crC cr0) 23)
  have k2 := Blk.new_ ((w.alloc (.cells (crC c) 23)).alloc (.cells #[.int .i64 o] 3)) (crC cr0) 23 (n := w.heap.size + 1 + 1) (by simp)
  have B0 := (((Below.refl w.heap.size w).alloc (Nat.le_refl _) (.cells (crC c) 23)).alloc (by simp) (.cells #[.int .i64 o] 3)).alloc (by simp; omega) (.cells (crC cr0) 23)
  have CH := changed_cr 30 #[.pointer (some ⟨w.heap.size + 1, 0, none⟩)] c (drC c o) (((w.alloc (.cells (crC c) 23)).alloc (.cells #[.int .i64 o] 3)).alloc (.cells (crC cr0) 23))
    (enters_of Try.func30 (by kernel_rfl) rfl) (fun V hV hk => dr1_cr c o _ _ (by have := k1.lt; omega) V (k1.below hV k1.lt) hk)
  generalize chgC c (drC c o) = r at CH ⊢
  unfold crV at CH ⊢
  go_enter Try.func18, Try.ntmps18
  go_wp2_with (first
    | (refine wpList_load_row rfl 23 (.tmp 2) rfl w.heap.size rfl 23 (crC c) (0, 0) _ k0.blk Try.underlying23 rfl (cr_inf c) ?_)
    | (refine CH.mono ?_; rintro e w1 ⟨rfl, bb⟩
       have k21 := k2.below bb k2.lt)
    | (refine wpList_store_blk rfl 23 (.tmp 4) (.tmp 9) rfl (w.heap.size + 1 + 1) (crC cr0) (crC r.1) 23 rfl rfl k21 rfl (cr_inf _) (cr_one _) ?_
       intro w3 h3 n3))
  refine bodyPost_ret (results_row_tmp rfl _ _ (w.heap.size + 1 + 1) 23 (crC r.1) (0, 0) _ rfl h3.blk Try.underlying23 rfl (cr_inf _) _ rfl) rfl ?_
  exact ⟨rfl, (B0.trans (bb.mono B0.size)).trans (n3.below _ (by omega) (B0.trans (bb.mono B0.size)).size)⟩
set_option maxRecDepth 100000 in
theorem nonew_cr (c : Cr) (w : World) : Calls Try.prog 16 #[crV c] w fun e w' => e = .returned (.tuple #[crV (chgC c (nnC c)).1, .int .i64 (chgC c (nnC c)).2]) ∧ Below w.heap.size w w' := by
  have k0 := (Blk.new w (crC c) 23).alloc (.cells (crC cr0) 23)
  have k2 := Blk.new_ (w.alloc (.cells (crC c) 23)) (crC cr0) 23 (n := w.heap.size + 1) (by simp)
  have B0 := ((Below.refl w.heap.size w).alloc (Nat.le_refl _) (.cells (crC c) 23)).alloc (by simp) (.cells (crC cr0) 23)
  have CH := changed_cr 29 #[] c (nnC c) ((w.alloc (.cells (crC c) 23)).alloc (.cells (crC cr0) 23))
    (enters_of Try.func29 (by kernel_rfl) rfl) (nn1_cr c _ _)
  generalize chgC c (nnC c) = r at CH ⊢
  unfold crV at CH ⊢
  go_enter Try.func16, Try.ntmps16
  go_wp2_with (first
    | (refine wpList_load_row rfl 23 (.tmp 1) rfl w.heap.size rfl 23 (crC c) (0, 0) _ k0.blk Try.underlying23 rfl (cr_inf c) ?_)
    | (refine CH.mono ?_; rintro e w1 ⟨rfl, bb⟩
       have k21 := k2.below bb k2.lt)
    | (refine wpList_store_blk rfl 23 (.tmp 2) (.tmp 6) rfl (w.heap.size + 1) (crC cr0) (crC r.1) 23 rfl rfl k21 rfl (cr_inf _) (cr_one _) ?_
       intro w3 h3 n3))
  refine bodyPost_ret (results_row_tmp rfl _ _ (w.heap.size + 1) 23 (crC r.1) (0, 0) _ rfl h3.blk Try.underlying23 rfl (cr_inf _) _ rfl) rfl ?_
  exact ⟨rfl, (B0.trans (bb.mono B0.size)).trans (n3.below _ (by omega) (B0.trans (bb.mono B0.size)).size)⟩
set_option maxRecDepth 100000 in
theorem strict_cr (c : Cr) (w : World) : Calls Try.prog 20 #[crV c] w fun e w' => e = .returned (.tuple #[crV (chgC c (stC c)).1, .int .i64 (chgC c (stC c)).2]) ∧ Below w.heap.size w w' := by
  have k0 := (Blk.new w (crC c) 23).alloc (.cells (crC cr0) 23)
  have k2 := Blk.new_ (w.alloc (.cells (crC c) 23)) (crC cr0) 23 (n := w.heap.size + 1) (by simp)
  have B0 := ((Below.refl w.heap.size w).alloc (Nat.le_refl _) (.cells (crC c) 23)).alloc (by simp) (.cells (crC cr0) 23)
  have CH := changed_cr 31 #[] c (stC c) ((w.alloc (.cells (crC c) 23)).alloc (.cells (crC cr0) 23))
    (enters_of Try.func31 (by kernel_rfl) rfl) (st1_cr c _ _)
  generalize chgC c (stC c) = r at CH ⊢
  unfold crV at CH ⊢
  go_enter Try.func20, Try.ntmps20
  go_wp2_with (first
    | (refine wpList_load_row rfl 23 (.tmp 1) rfl w.heap.size rfl 23 (crC c) (0, 0) _ k0.blk Try.underlying23 rfl (cr_inf c) ?_)
    | (refine CH.mono ?_; rintro e w1 ⟨rfl, bb⟩
       have k21 := k2.below bb k2.lt)
    | (refine wpList_store_blk rfl 23 (.tmp 2) (.tmp 6) rfl (w.heap.size + 1) (crC cr0) (crC r.1) 23 rfl rfl k21 rfl (cr_inf _) (cr_one _) ?_
       intro w3 h3 n3))
  refine bodyPost_ret (results_row_tmp rfl _ _ (w.heap.size + 1) 23 (crC r.1) (0, 0) _ rfl h3.blk Try.underlying23 rfl (cr_inf _) _ rfl) rfl ?_
  exact ⟨rfl, (B0.trans (bb.mono B0.size)).trans (n3.below _ (by omega) (B0.trans (bb.mono B0.size)).size)⟩
set_option maxRecDepth 100000 in
theorem filter_cr (c : Cr) (w : World) : Calls Try.prog 22 #[crV c] w fun e w' => e = .returned (.tuple #[crV (chgC c (fiC c)).1, .int .i64 (chgC c (fiC c)).2]) ∧ Below w.heap.size w w' := by
  have k0 := (Blk.new w (crC c) 23).alloc (.cells (crC cr0) 23)
  have k2 := Blk.new_ (w.alloc (.cells (crC c) 23)) (crC cr0) 23 (n := w.heap.size + 1) (by simp)
  have B0 := ((Below.refl w.heap.size w).alloc (Nat.le_refl _) (.cells (crC c) 23)).alloc (by simp) (.cells (crC cr0) 23)
  have CH := changed_cr 32 #[] c (fiC c) ((w.alloc (.cells (crC c) 23)).alloc (.cells (crC cr0) 23))
    (enters_of Try.func32 (by kernel_rfl) rfl) (fi1_cr c _ _)
  generalize chgC c (fiC c) = r at CH ⊢
  unfold crV at CH ⊢
  go_enter Try.func22, Try.ntmps22
  go_wp2_with (first
    | (refine wpList_load_row rfl 23 (.tmp 1) rfl w.heap.size rfl 23 (crC c) (0, 0) _ k0.blk Try.underlying23 rfl (cr_inf c) ?_)
    | (refine CH.mono ?_; rintro e w1 ⟨rfl, bb⟩
       have k21 := k2.below bb k2.lt)
    | (refine wpList_store_blk rfl 23 (.tmp 2) (.tmp 6) rfl (w.heap.size + 1) (crC cr0) (crC r.1) 23 rfl rfl k21 rfl (cr_inf _) (cr_one _) ?_
       intro w3 h3 n3))
  refine bodyPost_ret (results_row_tmp rfl _ _ (w.heap.size + 1) 23 (crC r.1) (0, 0) _ rfl h3.blk Try.underlying23 rfl (cr_inf _) _ rfl) rfl ?_
  exact ⟨rfl, (B0.trans (bb.mono B0.size)).trans (n3.below _ (by omega) (B0.trans (bb.mono B0.size)).size)⟩
end Go.Proofs.Yteoeflainejaaaa
