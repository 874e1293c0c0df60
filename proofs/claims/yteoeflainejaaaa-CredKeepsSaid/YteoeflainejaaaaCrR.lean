/-
  The reference's Right, Exec, NoNew, Drop, Strict, Filter, Below.
-/
import Derived.Test.YteoeflainejaaaaCrB
namespace Go.Proofs.Yteoeflainejaaaa
open Go.RowKit Go.Shelf
set_option linter.unusedVariables false
set_option linter.unusedSimpArgs false

theorem rright_cr (c : Cr) (w : World) : Calls Try.prog 10 #[crV c] w fun e w' => e = .returned (.bool (rightC c)) ∧ Below w.heap.size w w' := by
  obtain ⟨u, a, n, m⟩ := c
  have k1 := Blk.new w (crC (u, a, n, m)) 23
  have B0 := (Below.refl w.heap.size w).alloc (Nat.le_refl _) (.cells (crC (u, a, n, m)) 23)
  have q0 : _ = some (Value.int .i64 u) := k1.cell 0
  have q3 : _ = some (Value.int .i64 m) := k1.cell 3
  unfold rightC userC
  simp only
  unfold crV crC at *
  simp only at *
  cases h1 : decide (0 ≤ u) <;> (try cases h2 : decide (u ≤ 9)) <;> (try cases h3 : decide (0 ≤ m)) <;> (try cases h4 : decide (m ≤ 2)) <;>
  · go_enter Try.func10, Try.ntmps10
    go_wp2_with fail
    go_ret
    exact ⟨rfl, B0⟩
set_option maxRecDepth 100000 in
set_option maxHeartbeats 2000000 in
theorem rnonew_cr (c : Cr)  (w : World) : Calls Try.prog 17 #[crV c] w fun e w' => e = .returned (.tuple #[crV (chgC c (nnC c)).1, .int .i64 (chgC c (nnC c)).2]) ∧ Below w.heap.size w w' := by
  obtain ⟨u, a, n, m⟩ := c
  have k0 := (Blk.new w (crC (u, a, n, m)) 23).alloc (.cells (crC cr0) 23)
  have kr := Blk.new_ (w.alloc (.cells (crC (u, a, n, m)) 23)) (crC cr0) 23 (n := w.heap.size + 1) (by simp)
  have B0 : Below w.heap.size w ((w.alloc (.cells (crC (u, a, n, m)) 23)).alloc (.cells (crC cr0) 23)) := ((Below.refl w.heap.size w).alloc (Nat.le_refl _) _).alloc (by simp) _
  have hr := rright_cr (u, a, n, m) ((w.alloc (.cells (crC (u, a, n, m)) 23)).alloc (.cells (crC cr0) 23))
  obtain ⟨G, hG⟩ : ∃ G, chgC (u, a, n, m) (nnC (u, a, n, m)) = G := ⟨_, rfl⟩
  have hg : G = if rightC (u, a, n, m) = true then ((u, a, true, m), 0) else (cr0, 210) := by
    rw [← hG]
    unfold chgC
    cases rightC (u, a, n, m)
    · rfl
    · simp only [if_true]
      rfl
  rw [hG]
  clear hG
  generalize rightC (u, a, n, m) = rb at hr hg
  have enter : ∀ w1, Below ((w.alloc (.cells (crC (u, a, n, m)) 23)).alloc (.cells (crC cr0) 23)).heap.size ((w.alloc (.cells (crC (u, a, n, m)) 23)).alloc (.cells (crC cr0) 23)) w1 → Blk w1 w.heap.size (crC (u, a, n, m)) 23 ∧ Blk w1 (w.heap.size + 1) (crC cr0) 23 ∧ Below w.heap.size w w1 := fun w1 bb => ⟨k0.below bb k0.lt, kr.below bb kr.lt, B0.trans (bb.mono B0.size)⟩
  unfold crV at hr ⊢
  cases rb
  · skip
    have HG := Lib.hid hg
    clear hg
    go_enter Try.func17, Try.ntmps17
    go_wp2_with (first
      | (refine wpList_load_row rfl 23 (.tmp 1) rfl w.heap.size rfl 23 (crC (u, a, n, m)) (0, 0) _ k0.blk Try.underlying23 rfl (cr_inf _) ?_)
      | (refine hr.mono ?_; rintro e w1 ⟨rfl, bb⟩; obtain ⟨k1, kr1, b1⟩ := enter w1 bb; have q0 : w1.cell? ⟨w.heap.size, 0, none⟩ = some (.int .i64 u) := k1.cell 0; have q1 : w1.cell? ⟨w.heap.size, 1, none⟩ = some (.bool a) := k1.cell 1; have q2 : w1.cell? ⟨w.heap.size, 2, none⟩ = some (.bool n) := k1.cell 2; have q3 : w1.cell? ⟨w.heap.size, 3, none⟩ = some (.int .i64 m) := k1.cell 3)
      | (refine wpList_store_blk rfl 23 (.tmp 2) (.tmp 7) rfl (w.heap.size + 1) (crC cr0) (crC cr0) 23 rfl rfl kr1 rfl (cr_inf _) (cr_one _) ?_; intro w3 h3 n3))
    refine bodyPost_ret (results_row_tmp rfl _ _ (w.heap.size + 1) 23 (crC cr0) (0, 0) _ rfl h3.blk Try.underlying23 rfl (cr_inf _) _ rfl) rfl ?_
    exact ⟨by rw [HG.out]; rfl, b1.trans (n3.below _ (by omega) b1.size)⟩
  · skip
    have HG := Lib.hid hg
    clear hg
    go_enter Try.func17, Try.ntmps17
    go_wp2_with (first
      | (refine wpList_load_row rfl 23 (.tmp 1) rfl w.heap.size rfl 23 (crC (u, a, n, m)) (0, 0) _ k0.blk Try.underlying23 rfl (cr_inf _) ?_)
      | (refine hr.mono ?_; rintro e w1 ⟨rfl, bb⟩; obtain ⟨k1, kr1, b1⟩ := enter w1 bb; have q0 : w1.cell? ⟨w.heap.size, 0, none⟩ = some (.int .i64 u) := k1.cell 0; have q1 : w1.cell? ⟨w.heap.size, 1, none⟩ = some (.bool a) := k1.cell 1; have q2 : w1.cell? ⟨w.heap.size, 2, none⟩ = some (.bool n) := k1.cell 2; have q3 : w1.cell? ⟨w.heap.size, 3, none⟩ = some (.int .i64 m) := k1.cell 3)
      | (refine wpList_store_blk rfl 23 (.tmp 2) (.tmp 14) rfl (w.heap.size + 1) (crC cr0) (crC (u, a, true, m)) 23 rfl rfl kr1 rfl (cr_inf _) (cr_one _) ?_; intro w3 h3 n3))
    refine bodyPost_ret (results_row_tmp rfl _ _ (w.heap.size + 1) 23 (crC (u, a, true, m)) (0, 0) _ rfl h3.blk Try.underlying23 rfl (cr_inf _) _ rfl) rfl ?_
    exact ⟨by rw [HG.out]; rfl, b1.trans (n3.below _ (by omega) b1.size)⟩
set_option maxRecDepth 100000 in
set_option maxHeartbeats 2000000 in
theorem rstrict_cr (c : Cr)  (w : World) : Calls Try.prog 21 #[crV c] w fun e w' => e = .returned (.tuple #[crV (chgC c (stC c)).1, .int .i64 (chgC c (stC c)).2]) ∧ Below w.heap.size w w' := by
  obtain ⟨u, a, n, m⟩ := c
  have k0 := (Blk.new w (crC (u, a, n, m)) 23).alloc (.cells (crC cr0) 23)
  have kr := Blk.new_ (w.alloc (.cells (crC (u, a, n, m)) 23)) (crC cr0) 23 (n := w.heap.size + 1) (by simp)
  have B0 : Below w.heap.size w ((w.alloc (.cells (crC (u, a, n, m)) 23)).alloc (.cells (crC cr0) 23)) := ((Below.refl w.heap.size w).alloc (Nat.le_refl _) _).alloc (by simp) _
  have hr := rright_cr (u, a, n, m) ((w.alloc (.cells (crC (u, a, n, m)) 23)).alloc (.cells (crC cr0) 23))
  obtain ⟨G, hG⟩ : ∃ G, chgC (u, a, n, m) (stC (u, a, n, m)) = G := ⟨_, rfl⟩
  have hg : G = if rightC (u, a, n, m) = true then (if (m == 2) = true then (cr0, 21) else ((u, a, n, 1), 0)) else (cr0, 210) := by
    rw [← hG]
    unfold chgC
    cases rightC (u, a, n, m)
    · rfl
    · simp only [if_true]
      unfold stC; cases h : (m == 2) <;> simp [h]
  rw [hG]
  clear hG
  generalize rightC (u, a, n, m) = rb at hr hg
  have enter : ∀ w1, Below ((w.alloc (.cells (crC (u, a, n, m)) 23)).alloc (.cells (crC cr0) 23)).heap.size ((w.alloc (.cells (crC (u, a, n, m)) 23)).alloc (.cells (crC cr0) 23)) w1 → Blk w1 w.heap.size (crC (u, a, n, m)) 23 ∧ Blk w1 (w.heap.size + 1) (crC cr0) 23 ∧ Below w.heap.size w w1 := fun w1 bb => ⟨k0.below bb k0.lt, kr.below bb kr.lt, B0.trans (bb.mono B0.size)⟩
  unfold crV at hr ⊢
  cases rb
  · skip
    have HG := Lib.hid hg
    clear hg
    go_enter Try.func21, Try.ntmps21
    go_wp2_with (first
      | (refine wpList_load_row rfl 23 (.tmp 1) rfl w.heap.size rfl 23 (crC (u, a, n, m)) (0, 0) _ k0.blk Try.underlying23 rfl (cr_inf _) ?_)
      | (refine hr.mono ?_; rintro e w1 ⟨rfl, bb⟩; obtain ⟨k1, kr1, b1⟩ := enter w1 bb; have q0 : w1.cell? ⟨w.heap.size, 0, none⟩ = some (.int .i64 u) := k1.cell 0; have q1 : w1.cell? ⟨w.heap.size, 1, none⟩ = some (.bool a) := k1.cell 1; have q2 : w1.cell? ⟨w.heap.size, 2, none⟩ = some (.bool n) := k1.cell 2; have q3 : w1.cell? ⟨w.heap.size, 3, none⟩ = some (.int .i64 m) := k1.cell 3)
      | (refine wpList_store_blk rfl 23 (.tmp 2) (.tmp 7) rfl (w.heap.size + 1) (crC cr0) (crC cr0) 23 rfl rfl kr1 rfl (cr_inf _) (cr_one _) ?_; intro w3 h3 n3))
    refine bodyPost_ret (results_row_tmp rfl _ _ (w.heap.size + 1) 23 (crC cr0) (0, 0) _ rfl h3.blk Try.underlying23 rfl (cr_inf _) _ rfl) rfl ?_
    exact ⟨by rw [HG.out]; rfl, b1.trans (n3.below _ (by omega) b1.size)⟩
  · skip
    cases h1 : (m == 2)
    · skip
      rw [h1] at hg
      have HG := Lib.hid hg
      clear hg
      go_enter Try.func21, Try.ntmps21
      go_wp2_with (first
        | (refine wpList_load_row rfl 23 (.tmp 1) rfl w.heap.size rfl 23 (crC (u, a, n, m)) (0, 0) _ k0.blk Try.underlying23 rfl (cr_inf _) ?_)
        | (refine hr.mono ?_; rintro e w1 ⟨rfl, bb⟩; obtain ⟨k1, kr1, b1⟩ := enter w1 bb; have q0 : w1.cell? ⟨w.heap.size, 0, none⟩ = some (.int .i64 u) := k1.cell 0; have q1 : w1.cell? ⟨w.heap.size, 1, none⟩ = some (.bool a) := k1.cell 1; have q2 : w1.cell? ⟨w.heap.size, 2, none⟩ = some (.bool n) := k1.cell 2; have q3 : w1.cell? ⟨w.heap.size, 3, none⟩ = some (.int .i64 m) := k1.cell 3)
        | (refine wpList_store_blk rfl 23 (.tmp 2) (.tmp 18) rfl (w.heap.size + 1) (crC cr0) (crC (u, a, n, 1)) 23 rfl rfl kr1 rfl (cr_inf _) (cr_one _) ?_; intro w3 h3 n3))
      refine bodyPost_ret (results_row_tmp rfl _ _ (w.heap.size + 1) 23 (crC (u, a, n, 1)) (0, 0) _ rfl h3.blk Try.underlying23 rfl (cr_inf _) _ rfl) rfl ?_
      exact ⟨by rw [HG.out]; rfl, b1.trans (n3.below _ (by omega) b1.size)⟩
    · skip
      rw [h1] at hg
      have HG := Lib.hid hg
      clear hg
      go_enter Try.func21, Try.ntmps21
      go_wp2_with (first
        | (refine wpList_load_row rfl 23 (.tmp 1) rfl w.heap.size rfl 23 (crC (u, a, n, m)) (0, 0) _ k0.blk Try.underlying23 rfl (cr_inf _) ?_)
        | (refine hr.mono ?_; rintro e w1 ⟨rfl, bb⟩; obtain ⟨k1, kr1, b1⟩ := enter w1 bb; have q0 : w1.cell? ⟨w.heap.size, 0, none⟩ = some (.int .i64 u) := k1.cell 0; have q1 : w1.cell? ⟨w.heap.size, 1, none⟩ = some (.bool a) := k1.cell 1; have q2 : w1.cell? ⟨w.heap.size, 2, none⟩ = some (.bool n) := k1.cell 2; have q3 : w1.cell? ⟨w.heap.size, 3, none⟩ = some (.int .i64 m) := k1.cell 3)
        | (refine wpList_store_blk rfl 23 (.tmp 2) (.tmp 11) rfl (w.heap.size + 1) (crC cr0) (crC cr0) 23 rfl rfl kr1 rfl (cr_inf _) (cr_one _) ?_; intro w3 h3 n3))
      refine bodyPost_ret (results_row_tmp rfl _ _ (w.heap.size + 1) 23 (crC cr0) (0, 0) _ rfl h3.blk Try.underlying23 rfl (cr_inf _) _ rfl) rfl ?_
      exact ⟨by rw [HG.out]; rfl, b1.trans (n3.below _ (by omega) b1.size)⟩
set_option maxRecDepth 100000 in
set_option maxHeartbeats 2000000 in
theorem rfilter_cr (c : Cr)  (w : World) : Calls Try.prog 23 #[crV c] w fun e w' => e = .returned (.tuple #[crV (chgC c (fiC c)).1, .int .i64 (chgC c (fiC c)).2]) ∧ Below w.heap.size w w' := by
  obtain ⟨u, a, n, m⟩ := c
  have k0 := (Blk.new w (crC (u, a, n, m)) 23).alloc (.cells (crC cr0) 23)
  have kr := Blk.new_ (w.alloc (.cells (crC (u, a, n, m)) 23)) (crC cr0) 23 (n := w.heap.size + 1) (by simp)
  have B0 : Below w.heap.size w ((w.alloc (.cells (crC (u, a, n, m)) 23)).alloc (.cells (crC cr0) 23)) := ((Below.refl w.heap.size w).alloc (Nat.le_refl _) _).alloc (by simp) _
  have hr := rright_cr (u, a, n, m) ((w.alloc (.cells (crC (u, a, n, m)) 23)).alloc (.cells (crC cr0) 23))
  obtain ⟨G, hG⟩ : ∃ G, chgC (u, a, n, m) (fiC (u, a, n, m)) = G := ⟨_, rfl⟩
  have hg : G = if rightC (u, a, n, m) = true then (if (m == 1) = true then (cr0, 21) else if a = true then ((u, a, n, 2), 0) else if n = true then ((u, a, n, 2), 0) else (cr0, 22)) else (cr0, 210) := by
    rw [← hG]
    unfold chgC
    cases rightC (u, a, n, m)
    · rfl
    · simp only [if_true]
      unfold fiC; cases h : (m == 1) <;> cases a <;> cases n <;> simp [h]
  rw [hG]
  clear hG
  generalize rightC (u, a, n, m) = rb at hr hg
  have enter : ∀ w1, Below ((w.alloc (.cells (crC (u, a, n, m)) 23)).alloc (.cells (crC cr0) 23)).heap.size ((w.alloc (.cells (crC (u, a, n, m)) 23)).alloc (.cells (crC cr0) 23)) w1 → Blk w1 w.heap.size (crC (u, a, n, m)) 23 ∧ Blk w1 (w.heap.size + 1) (crC cr0) 23 ∧ Below w.heap.size w w1 := fun w1 bb => ⟨k0.below bb k0.lt, kr.below bb kr.lt, B0.trans (bb.mono B0.size)⟩
  unfold crV at hr ⊢
  cases rb
  · skip
    have HG := Lib.hid hg
    clear hg
    go_enter Try.func23, Try.ntmps23
    go_wp2_with (first
      | (refine wpList_load_row rfl 23 (.tmp 1) rfl w.heap.size rfl 23 (crC (u, a, n, m)) (0, 0) _ k0.blk Try.underlying23 rfl (cr_inf _) ?_)
      | (refine hr.mono ?_; rintro e w1 ⟨rfl, bb⟩; obtain ⟨k1, kr1, b1⟩ := enter w1 bb; have q0 : w1.cell? ⟨w.heap.size, 0, none⟩ = some (.int .i64 u) := k1.cell 0; have q1 : w1.cell? ⟨w.heap.size, 1, none⟩ = some (.bool a) := k1.cell 1; have q2 : w1.cell? ⟨w.heap.size, 2, none⟩ = some (.bool n) := k1.cell 2; have q3 : w1.cell? ⟨w.heap.size, 3, none⟩ = some (.int .i64 m) := k1.cell 3)
      | (refine wpList_store_blk rfl 23 (.tmp 2) (.tmp 7) rfl (w.heap.size + 1) (crC cr0) (crC cr0) 23 rfl rfl kr1 rfl (cr_inf _) (cr_one _) ?_; intro w3 h3 n3))
    refine bodyPost_ret (results_row_tmp rfl _ _ (w.heap.size + 1) 23 (crC cr0) (0, 0) _ rfl h3.blk Try.underlying23 rfl (cr_inf _) _ rfl) rfl ?_
    exact ⟨by rw [HG.out]; rfl, b1.trans (n3.below _ (by omega) b1.size)⟩
  · skip
    cases h1 : (m == 1)
    · skip
      rw [h1] at hg
      cases a
      · skip
        cases n
        · skip
          have HG := Lib.hid hg
          clear hg
          go_enter Try.func23, Try.ntmps23
          go_wp2_with (first
            | (refine wpList_load_row rfl 23 (.tmp 1) rfl w.heap.size rfl 23 (crC (u, false, false, m)) (0, 0) _ k0.blk Try.underlying23 rfl (cr_inf _) ?_)
            | (refine hr.mono ?_; rintro e w1 ⟨rfl, bb⟩; obtain ⟨k1, kr1, b1⟩ := enter w1 bb; have q0 : w1.cell? ⟨w.heap.size, 0, none⟩ = some (.int .i64 u) := k1.cell 0; have q1 : w1.cell? ⟨w.heap.size, 1, none⟩ = some (.bool false) := k1.cell 1; have q2 : w1.cell? ⟨w.heap.size, 2, none⟩ = some (.bool false) := k1.cell 2; have q3 : w1.cell? ⟨w.heap.size, 3, none⟩ = some (.int .i64 m) := k1.cell 3)
            | (refine wpList_store_blk rfl 23 (.tmp 2) (.tmp 20) rfl (w.heap.size + 1) (crC cr0) (crC cr0) 23 rfl rfl kr1 rfl (cr_inf _) (cr_one _) ?_; intro w3 h3 n3))
          refine bodyPost_ret (results_row_tmp rfl _ _ (w.heap.size + 1) 23 (crC cr0) (0, 0) _ rfl h3.blk Try.underlying23 rfl (cr_inf _) _ rfl) rfl ?_
          exact ⟨by rw [HG.out]; rfl, b1.trans (n3.below _ (by omega) b1.size)⟩
        · skip
          have HG := Lib.hid hg
          clear hg
          go_enter Try.func23, Try.ntmps23
          go_wp2_with (first
            | (refine wpList_load_row rfl 23 (.tmp 1) rfl w.heap.size rfl 23 (crC (u, false, true, m)) (0, 0) _ k0.blk Try.underlying23 rfl (cr_inf _) ?_)
            | (refine hr.mono ?_; rintro e w1 ⟨rfl, bb⟩; obtain ⟨k1, kr1, b1⟩ := enter w1 bb; have q0 : w1.cell? ⟨w.heap.size, 0, none⟩ = some (.int .i64 u) := k1.cell 0; have q1 : w1.cell? ⟨w.heap.size, 1, none⟩ = some (.bool false) := k1.cell 1; have q2 : w1.cell? ⟨w.heap.size, 2, none⟩ = some (.bool true) := k1.cell 2; have q3 : w1.cell? ⟨w.heap.size, 3, none⟩ = some (.int .i64 m) := k1.cell 3)
            | (refine wpList_store_blk rfl 23 (.tmp 2) (.tmp 27) rfl (w.heap.size + 1) (crC cr0) (crC (u, false, true, 2)) 23 rfl rfl kr1 rfl (cr_inf _) (cr_one _) ?_; intro w3 h3 n3))
          refine bodyPost_ret (results_row_tmp rfl _ _ (w.heap.size + 1) 23 (crC (u, false, true, 2)) (0, 0) _ rfl h3.blk Try.underlying23 rfl (cr_inf _) _ rfl) rfl ?_
          exact ⟨by rw [HG.out]; rfl, b1.trans (n3.below _ (by omega) b1.size)⟩
      · skip
        have HG := Lib.hid hg
        clear hg
        go_enter Try.func23, Try.ntmps23
        go_wp2_with (first
          | (refine wpList_load_row rfl 23 (.tmp 1) rfl w.heap.size rfl 23 (crC (u, true, n, m)) (0, 0) _ k0.blk Try.underlying23 rfl (cr_inf _) ?_)
          | (refine hr.mono ?_; rintro e w1 ⟨rfl, bb⟩; obtain ⟨k1, kr1, b1⟩ := enter w1 bb; have q0 : w1.cell? ⟨w.heap.size, 0, none⟩ = some (.int .i64 u) := k1.cell 0; have q1 : w1.cell? ⟨w.heap.size, 1, none⟩ = some (.bool true) := k1.cell 1; have q2 : w1.cell? ⟨w.heap.size, 2, none⟩ = some (.bool n) := k1.cell 2; have q3 : w1.cell? ⟨w.heap.size, 3, none⟩ = some (.int .i64 m) := k1.cell 3)
          | (refine wpList_store_blk rfl 23 (.tmp 2) (.tmp 27) rfl (w.heap.size + 1) (crC cr0) (crC (u, true, n, 2)) 23 rfl rfl kr1 rfl (cr_inf _) (cr_one _) ?_; intro w3 h3 n3))
        refine bodyPost_ret (results_row_tmp rfl _ _ (w.heap.size + 1) 23 (crC (u, true, n, 2)) (0, 0) _ rfl h3.blk Try.underlying23 rfl (cr_inf _) _ rfl) rfl ?_
        exact ⟨by rw [HG.out]; rfl, b1.trans (n3.below _ (by omega) b1.size)⟩
    · skip
      rw [h1] at hg
      have HG := Lib.hid hg
      clear hg
      go_enter Try.func23, Try.ntmps23
      go_wp2_with (first
        | (refine wpList_load_row rfl 23 (.tmp 1) rfl w.heap.size rfl 23 (crC (u, a, n, m)) (0, 0) _ k0.blk Try.underlying23 rfl (cr_inf _) ?_)
        | (refine hr.mono ?_; rintro e w1 ⟨rfl, bb⟩; obtain ⟨k1, kr1, b1⟩ := enter w1 bb; have q0 : w1.cell? ⟨w.heap.size, 0, none⟩ = some (.int .i64 u) := k1.cell 0; have q1 : w1.cell? ⟨w.heap.size, 1, none⟩ = some (.bool a) := k1.cell 1; have q2 : w1.cell? ⟨w.heap.size, 2, none⟩ = some (.bool n) := k1.cell 2; have q3 : w1.cell? ⟨w.heap.size, 3, none⟩ = some (.int .i64 m) := k1.cell 3)
        | (refine wpList_store_blk rfl 23 (.tmp 2) (.tmp 11) rfl (w.heap.size + 1) (crC cr0) (crC cr0) 23 rfl rfl kr1 rfl (cr_inf _) (cr_one _) ?_; intro w3 h3 n3))
      refine bodyPost_ret (results_row_tmp rfl _ _ (w.heap.size + 1) 23 (crC cr0) (0, 0) _ rfl h3.blk Try.underlying23 rfl (cr_inf _) _ rfl) rfl ?_
      exact ⟨by rw [HG.out]; rfl, b1.trans (n3.below _ (by omega) b1.size)⟩
set_option maxRecDepth 100000 in
set_option maxHeartbeats 2000000 in
theorem rexec_cr (c : Cr) (o : Int) (s : Bool) (w : World) : Calls Try.prog 15 #[crV c, .agg #[.int .i64 o, .bool s]] w fun e w' => e = .returned (.tuple #[crV (chgC c (exC c o s)).1, .int .i64 (chgC c (exC c o s)).2]) ∧ Below w.heap.size w w' := by
  obtain ⟨u, a, n, m⟩ := c
  have k0 := ((Blk.new w (crC (u, a, n, m)) 23).alloc (.cells #[.int .i64 o, .bool s] 31)).alloc (.cells (crC cr0) 23)
  have kf := (Blk.new_ (w.alloc (.cells (crC (u, a, n, m)) 23)) #[.int .i64 o, .bool s] 31 (n := w.heap.size + 1) (by simp)).alloc (.cells (crC cr0) 23)
  have kr := Blk.new_ ((w.alloc (.cells (crC (u, a, n, m)) 23)).alloc (.cells #[.int .i64 o, .bool s] 31)) (crC cr0) 23 (n := w.heap.size + 1 + 1) (by simp)
  have B0 : Below w.heap.size w (((w.alloc (.cells (crC (u, a, n, m)) 23)).alloc (.cells #[.int .i64 o, .bool s] 31)).alloc (.cells (crC cr0) 23)) := (((Below.refl w.heap.size w).alloc (Nat.le_refl _) _).alloc (by simp) _).alloc (by simp; omega) _
  have hr := rright_cr (u, a, n, m) (((w.alloc (.cells (crC (u, a, n, m)) 23)).alloc (.cells #[.int .i64 o, .bool s] 31)).alloc (.cells (crC cr0) 23))
  obtain ⟨G, hG⟩ : ∃ G, chgC (u, a, n, m) (exC (u, a, n, m) o s) = G := ⟨_, rfl⟩
  have hg : G = if rightC (u, a, n, m) = true then (if decide (o < 0) = true then (cr0, 2) else if decide (9 < o) = true then (cr0, 2) else if s = true then (if n = true then ((u, a, n, m), 0) else ((o, (o == 0), false, m), 0)) else ((u, a, n, m), 0)) else (cr0, 210) := by
    rw [← hG]
    unfold chgC
    cases rightC (u, a, n, m)
    · rfl
    · simp only [if_true]
      unfold exC userC; by_cases h1 : o < 0
      · rw [decide_eq_true h1, decide_eq_false (by omega : ¬ 0 ≤ o)]; simp
      · by_cases h2 : 9 < o
        · rw [decide_eq_false h1, decide_eq_true h2, decide_eq_false (by omega : ¬ o ≤ 9)]; simp
        · rw [decide_eq_false h1, decide_eq_false h2, decide_eq_true (by omega : o ≤ 9), decide_eq_true (by omega : 0 ≤ o)]
          cases s <;> cases n <;> simp
  rw [hG]
  clear hG
  generalize rightC (u, a, n, m) = rb at hr hg
  have enter : ∀ w1, Below (((w.alloc (.cells (crC (u, a, n, m)) 23)).alloc (.cells #[.int .i64 o, .bool s] 31)).alloc (.cells (crC cr0) 23)).heap.size (((w.alloc (.cells (crC (u, a, n, m)) 23)).alloc (.cells #[.int .i64 o, .bool s] 31)).alloc (.cells (crC cr0) 23)) w1 → Blk w1 w.heap.size (crC (u, a, n, m)) 23 ∧ Blk w1 (w.heap.size + 1) #[.int .i64 o, .bool s] 31 ∧ Blk w1 (w.heap.size + 1 + 1) (crC cr0) 23 ∧ Below w.heap.size w w1 := fun w1 bb => ⟨k0.below bb k0.lt, kf.below bb kf.lt, kr.below bb kr.lt, B0.trans (bb.mono B0.size)⟩
  unfold crV at hr ⊢
  cases rb
  · skip
    have HG := Lib.hid hg
    clear hg
    go_enter Try.func15, Try.ntmps15
    go_wp2_with (first
      | (refine wpList_load_row rfl 23 (.tmp 2) rfl w.heap.size rfl 23 (crC (u, a, n, m)) (0, 0) _ k0.blk Try.underlying23 rfl (cr_inf _) ?_)
      | (refine hr.mono ?_; rintro e w1 ⟨rfl, bb⟩; obtain ⟨k1, kf1, kr1, b1⟩ := enter w1 bb; have q0 : w1.cell? ⟨w.heap.size, 0, none⟩ = some (.int .i64 u) := k1.cell 0; have q1 : w1.cell? ⟨w.heap.size, 1, none⟩ = some (.bool a) := k1.cell 1; have q2 : w1.cell? ⟨w.heap.size, 2, none⟩ = some (.bool n) := k1.cell 2; have q3 : w1.cell? ⟨w.heap.size, 3, none⟩ = some (.int .i64 m) := k1.cell 3; have p0 : w1.cell? ⟨w.heap.size + 1, 0, none⟩ = some (.int .i64 o) := kf1.cell 0; have p1 : w1.cell? ⟨w.heap.size + 1, 1, none⟩ = some (.bool s) := kf1.cell 1)
      | (refine wpList_store_blk rfl 23 (.tmp 4) (.tmp 9) rfl (w.heap.size + 1 + 1) (crC cr0) (crC cr0) 23 rfl rfl kr1 rfl (cr_inf _) (cr_one _) ?_; intro w3 h3 n3))
    refine bodyPost_ret (results_row_tmp rfl _ _ (w.heap.size + 1 + 1) 23 (crC cr0) (0, 0) _ rfl h3.blk Try.underlying23 rfl (cr_inf _) _ rfl) rfl ?_
    exact ⟨by rw [HG.out]; rfl, b1.trans (n3.below _ (by omega) b1.size)⟩
  · skip
    cases h1 : decide (o < 0)
    · skip
      rw [h1] at hg
      cases h2 : decide (9 < o)
      · skip
        rw [h2] at hg
        cases s
        · skip
          have HG := Lib.hid hg
          clear hg
          go_enter Try.func15, Try.ntmps15
          go_wp2_with (first
            | (refine wpList_load_row rfl 23 (.tmp 2) rfl w.heap.size rfl 23 (crC (u, a, n, m)) (0, 0) _ k0.blk Try.underlying23 rfl (cr_inf _) ?_)
            | (refine wpList_load_row rfl 23 (.tmp 2) rfl w.heap.size rfl 23 (crC (u, a, n, m)) (0, 0) _ k1.blk Try.underlying23 rfl (cr_inf _) ?_)
            | (refine hr.mono ?_; rintro e w1 ⟨rfl, bb⟩; obtain ⟨k1, kf1, kr1, b1⟩ := enter w1 bb; have q0 : w1.cell? ⟨w.heap.size, 0, none⟩ = some (.int .i64 u) := k1.cell 0; have q1 : w1.cell? ⟨w.heap.size, 1, none⟩ = some (.bool a) := k1.cell 1; have q2 : w1.cell? ⟨w.heap.size, 2, none⟩ = some (.bool n) := k1.cell 2; have q3 : w1.cell? ⟨w.heap.size, 3, none⟩ = some (.int .i64 m) := k1.cell 3; have p0 : w1.cell? ⟨w.heap.size + 1, 0, none⟩ = some (.int .i64 o) := kf1.cell 0; have p1 : w1.cell? ⟨w.heap.size + 1, 1, none⟩ = some (.bool false) := kf1.cell 1)
            | (refine wpList_store_blk rfl 23 (.tmp 4) (.tmp 26) rfl (w.heap.size + 1 + 1) (crC cr0) (crC (u, a, n, m)) 23 rfl rfl kr1 rfl (cr_inf _) (cr_one _) ?_; intro w3 h3 n3))
          refine bodyPost_ret (results_row_tmp rfl _ _ (w.heap.size + 1 + 1) 23 (crC (u, a, n, m)) (0, 0) _ rfl h3.blk Try.underlying23 rfl (cr_inf _) _ rfl) rfl ?_
          exact ⟨by rw [HG.out]; rfl, b1.trans (n3.below _ (by omega) b1.size)⟩
        · skip
          cases n
          · skip
            have HG := Lib.hid hg
            clear hg
            go_enter Try.func15, Try.ntmps15
            go_wp2_with (first
              | (refine wpList_load_row rfl 23 (.tmp 2) rfl w.heap.size rfl 23 (crC (u, a, false, m)) (0, 0) _ k0.blk Try.underlying23 rfl (cr_inf _) ?_)
              | (refine hr.mono ?_; rintro e w1 ⟨rfl, bb⟩; obtain ⟨k1, kf1, kr1, b1⟩ := enter w1 bb; have q0 : w1.cell? ⟨w.heap.size, 0, none⟩ = some (.int .i64 u) := k1.cell 0; have q1 : w1.cell? ⟨w.heap.size, 1, none⟩ = some (.bool a) := k1.cell 1; have q2 : w1.cell? ⟨w.heap.size, 2, none⟩ = some (.bool false) := k1.cell 2; have q3 : w1.cell? ⟨w.heap.size, 3, none⟩ = some (.int .i64 m) := k1.cell 3; have p0 : w1.cell? ⟨w.heap.size + 1, 0, none⟩ = some (.int .i64 o) := kf1.cell 0; have p1 : w1.cell? ⟨w.heap.size + 1, 1, none⟩ = some (.bool true) := kf1.cell 1)
              | (refine wpList_store_blk rfl 23 (.tmp 4) (.tmp 34) rfl (w.heap.size + 1 + 1) (crC cr0) (crC (o, (o == 0), false, m)) 23 rfl rfl kr1 rfl (cr_inf _) (cr_one _) ?_; intro w3 h3 n3))
            refine bodyPost_ret (results_row_tmp rfl _ _ (w.heap.size + 1 + 1) 23 (crC (o, (o == 0), false, m)) (0, 0) _ rfl h3.blk Try.underlying23 rfl (cr_inf _) _ rfl) rfl ?_
            exact ⟨by rw [HG.out]; rfl, b1.trans (n3.below _ (by omega) b1.size)⟩
          · skip
            have HG := Lib.hid hg
            clear hg
            go_enter Try.func15, Try.ntmps15
            go_wp2_with (first
              | (refine wpList_load_row rfl 23 (.tmp 2) rfl w.heap.size rfl 23 (crC (u, a, true, m)) (0, 0) _ k0.blk Try.underlying23 rfl (cr_inf _) ?_)
              | (refine wpList_load_row rfl 23 (.tmp 2) rfl w.heap.size rfl 23 (crC (u, a, true, m)) (0, 0) _ k1.blk Try.underlying23 rfl (cr_inf _) ?_)
              | (refine hr.mono ?_; rintro e w1 ⟨rfl, bb⟩; obtain ⟨k1, kf1, kr1, b1⟩ := enter w1 bb; have q0 : w1.cell? ⟨w.heap.size, 0, none⟩ = some (.int .i64 u) := k1.cell 0; have q1 : w1.cell? ⟨w.heap.size, 1, none⟩ = some (.bool a) := k1.cell 1; have q2 : w1.cell? ⟨w.heap.size, 2, none⟩ = some (.bool true) := k1.cell 2; have q3 : w1.cell? ⟨w.heap.size, 3, none⟩ = some (.int .i64 m) := k1.cell 3; have p0 : w1.cell? ⟨w.heap.size + 1, 0, none⟩ = some (.int .i64 o) := kf1.cell 0; have p1 : w1.cell? ⟨w.heap.size + 1, 1, none⟩ = some (.bool true) := kf1.cell 1)
              | (refine wpList_store_blk rfl 23 (.tmp 4) (.tmp 26) rfl (w.heap.size + 1 + 1) (crC cr0) (crC (u, a, true, m)) 23 rfl rfl kr1 rfl (cr_inf _) (cr_one _) ?_; intro w3 h3 n3))
            refine bodyPost_ret (results_row_tmp rfl _ _ (w.heap.size + 1 + 1) 23 (crC (u, a, true, m)) (0, 0) _ rfl h3.blk Try.underlying23 rfl (cr_inf _) _ rfl) rfl ?_
            exact ⟨by rw [HG.out]; rfl, b1.trans (n3.below _ (by omega) b1.size)⟩
      · skip
        rw [h2] at hg
        have HG := Lib.hid hg
        clear hg
        go_enter Try.func15, Try.ntmps15
        go_wp2_with (first
          | (refine wpList_load_row rfl 23 (.tmp 2) rfl w.heap.size rfl 23 (crC (u, a, n, m)) (0, 0) _ k0.blk Try.underlying23 rfl (cr_inf _) ?_)
          | (refine hr.mono ?_; rintro e w1 ⟨rfl, bb⟩; obtain ⟨k1, kf1, kr1, b1⟩ := enter w1 bb; have q0 : w1.cell? ⟨w.heap.size, 0, none⟩ = some (.int .i64 u) := k1.cell 0; have q1 : w1.cell? ⟨w.heap.size, 1, none⟩ = some (.bool a) := k1.cell 1; have q2 : w1.cell? ⟨w.heap.size, 2, none⟩ = some (.bool n) := k1.cell 2; have q3 : w1.cell? ⟨w.heap.size, 3, none⟩ = some (.int .i64 m) := k1.cell 3; have p0 : w1.cell? ⟨w.heap.size + 1, 0, none⟩ = some (.int .i64 o) := kf1.cell 0; have p1 : w1.cell? ⟨w.heap.size + 1, 1, none⟩ = some (.bool s) := kf1.cell 1)
          | (refine wpList_store_blk rfl 23 (.tmp 4) (.tmp 18) rfl (w.heap.size + 1 + 1) (crC cr0) (crC cr0) 23 rfl rfl kr1 rfl (cr_inf _) (cr_one _) ?_; intro w3 h3 n3))
        refine bodyPost_ret (results_row_tmp rfl _ _ (w.heap.size + 1 + 1) 23 (crC cr0) (0, 0) _ rfl h3.blk Try.underlying23 rfl (cr_inf _) _ rfl) rfl ?_
        exact ⟨by rw [HG.out]; rfl, b1.trans (n3.below _ (by omega) b1.size)⟩
    · skip
      rw [h1] at hg
      have HG := Lib.hid hg
      clear hg
      go_enter Try.func15, Try.ntmps15
      go_wp2_with (first
        | (refine wpList_load_row rfl 23 (.tmp 2) rfl w.heap.size rfl 23 (crC (u, a, n, m)) (0, 0) _ k0.blk Try.underlying23 rfl (cr_inf _) ?_)
        | (refine hr.mono ?_; rintro e w1 ⟨rfl, bb⟩; obtain ⟨k1, kf1, kr1, b1⟩ := enter w1 bb; have q0 : w1.cell? ⟨w.heap.size, 0, none⟩ = some (.int .i64 u) := k1.cell 0; have q1 : w1.cell? ⟨w.heap.size, 1, none⟩ = some (.bool a) := k1.cell 1; have q2 : w1.cell? ⟨w.heap.size, 2, none⟩ = some (.bool n) := k1.cell 2; have q3 : w1.cell? ⟨w.heap.size, 3, none⟩ = some (.int .i64 m) := k1.cell 3; have p0 : w1.cell? ⟨w.heap.size + 1, 0, none⟩ = some (.int .i64 o) := kf1.cell 0; have p1 : w1.cell? ⟨w.heap.size + 1, 1, none⟩ = some (.bool s) := kf1.cell 1)
        | (refine wpList_store_blk rfl 23 (.tmp 4) (.tmp 18) rfl (w.heap.size + 1 + 1) (crC cr0) (crC cr0) 23 rfl rfl kr1 rfl (cr_inf _) (cr_one _) ?_; intro w3 h3 n3))
      refine bodyPost_ret (results_row_tmp rfl _ _ (w.heap.size + 1 + 1) 23 (crC cr0) (0, 0) _ rfl h3.blk Try.underlying23 rfl (cr_inf _) _ rfl) rfl ?_
      exact ⟨by rw [HG.out]; rfl, b1.trans (n3.below _ (by omega) b1.size)⟩
set_option maxRecDepth 100000 in
set_option maxHeartbeats 2000000 in
theorem rdrop_cr (c : Cr) (o : Int) (w : World) : Calls Try.prog 19 #[crV c, .int .i64 o] w fun e w' => e = .returned (.tuple #[crV (chgC c (drC c o)).1, .int .i64 (chgC c (drC c o)).2]) ∧ Below w.heap.size w w' := by
  obtain ⟨u, a, n, m⟩ := c
  have k0 := (Blk.new w (crC (u, a, n, m)) 23).alloc (.cells (crC cr0) 23)
  have kr := Blk.new_ (w.alloc (.cells (crC (u, a, n, m)) 23)) (crC cr0) 23 (n := w.heap.size + 1) (by simp)
  have B0 : Below w.heap.size w ((w.alloc (.cells (crC (u, a, n, m)) 23)).alloc (.cells (crC cr0) 23)) := ((Below.refl w.heap.size w).alloc (Nat.le_refl _) _).alloc (by simp) _
  have hr := rright_cr (u, a, n, m) ((w.alloc (.cells (crC (u, a, n, m)) 23)).alloc (.cells (crC cr0) 23))
  obtain ⟨G, hG⟩ : ∃ G, chgC (u, a, n, m) (drC (u, a, n, m) o) = G := ⟨_, rfl⟩
  have hg : G = if rightC (u, a, n, m) = true then (if decide (o < 0) = true then (cr0, 2) else if decide (9 < o) = true then (cr0, 2) else if a = true then (if (o == 0) = true then ((o, true, n, m), 0) else ((o, false, n, m), 0)) else if (o != u) = true then (cr0, 20) else ((o, false, n, m), 0)) else (cr0, 210) := by
    rw [← hG]
    unfold chgC
    cases rightC (u, a, n, m)
    · rfl
    · simp only [if_true]
      unfold drC userC; by_cases h1 : o < 0
      · rw [decide_eq_true h1, decide_eq_false (by omega : ¬ 0 ≤ o)]; simp
      · by_cases h2 : 9 < o
        · rw [decide_eq_false h1, decide_eq_true h2, decide_eq_false (by omega : ¬ o ≤ 9)]; simp
        · rw [decide_eq_false h1, decide_eq_false h2, decide_eq_true (by omega : o ≤ 9), decide_eq_true (by omega : 0 ≤ o)]
          cases h3 : (o == 0) <;> cases h4 : (o != u) <;> cases a <;> simp [h3, h4]
  rw [hG]
  clear hG
  generalize rightC (u, a, n, m) = rb at hr hg
  have enter : ∀ w1, Below ((w.alloc (.cells (crC (u, a, n, m)) 23)).alloc (.cells (crC cr0) 23)).heap.size ((w.alloc (.cells (crC (u, a, n, m)) 23)).alloc (.cells (crC cr0) 23)) w1 → Blk w1 w.heap.size (crC (u, a, n, m)) 23 ∧ Blk w1 (w.heap.size + 1) (crC cr0) 23 ∧ Below w.heap.size w w1 := fun w1 bb => ⟨k0.below bb k0.lt, kr.below bb kr.lt, B0.trans (bb.mono B0.size)⟩
  unfold crV at hr ⊢
  cases rb
  · skip
    have HG := Lib.hid hg
    clear hg
    go_enter Try.func19, Try.ntmps19
    go_wp2_with (first
      | (refine wpList_load_row rfl 23 (.tmp 2) rfl w.heap.size rfl 23 (crC (u, a, n, m)) (0, 0) _ k0.blk Try.underlying23 rfl (cr_inf _) ?_)
      | (refine hr.mono ?_; rintro e w1 ⟨rfl, bb⟩; obtain ⟨k1, kr1, b1⟩ := enter w1 bb; have q0 : w1.cell? ⟨w.heap.size, 0, none⟩ = some (.int .i64 u) := k1.cell 0; have q1 : w1.cell? ⟨w.heap.size, 1, none⟩ = some (.bool a) := k1.cell 1; have q2 : w1.cell? ⟨w.heap.size, 2, none⟩ = some (.bool n) := k1.cell 2; have q3 : w1.cell? ⟨w.heap.size, 3, none⟩ = some (.int .i64 m) := k1.cell 3)
      | (refine wpList_store_blk rfl 23 (.tmp 4) (.tmp 9) rfl (w.heap.size + 1) (crC cr0) (crC cr0) 23 rfl rfl kr1 rfl (cr_inf _) (cr_one _) ?_; intro w3 h3 n3))
    refine bodyPost_ret (results_row_tmp rfl _ _ (w.heap.size + 1) 23 (crC cr0) (0, 0) _ rfl h3.blk Try.underlying23 rfl (cr_inf _) _ rfl) rfl ?_
    exact ⟨by rw [HG.out]; rfl, b1.trans (n3.below _ (by omega) b1.size)⟩
  · skip
    cases h1 : decide (o < 0)
    · skip
      rw [h1] at hg
      cases h2 : decide (9 < o)
      · skip
        rw [h2] at hg
        cases a
        · skip
          cases h4 : (o != u)
          · skip
            rw [h4] at hg
            cases h3 : (o == 0)
            · skip
              rw [h3] at hg
              have HG := Lib.hid hg
              clear hg
              go_enter Try.func19, Try.ntmps19
              go_wp2_with (first
                | (refine wpList_load_row rfl 23 (.tmp 2) rfl w.heap.size rfl 23 (crC (u, false, n, m)) (0, 0) _ k0.blk Try.underlying23 rfl (cr_inf _) ?_)
                | (refine hr.mono ?_; rintro e w1 ⟨rfl, bb⟩; obtain ⟨k1, kr1, b1⟩ := enter w1 bb; have q0 : w1.cell? ⟨w.heap.size, 0, none⟩ = some (.int .i64 u) := k1.cell 0; have q1 : w1.cell? ⟨w.heap.size, 1, none⟩ = some (.bool false) := k1.cell 1; have q2 : w1.cell? ⟨w.heap.size, 2, none⟩ = some (.bool n) := k1.cell 2; have q3 : w1.cell? ⟨w.heap.size, 3, none⟩ = some (.int .i64 m) := k1.cell 3)
                | (refine wpList_store_blk rfl 23 (.tmp 4) (.tmp 38) rfl (w.heap.size + 1) (crC cr0) (crC (o, false, n, m)) 23 rfl rfl kr1 rfl (cr_inf _) (cr_one _) ?_; intro w3 h3 n3))
              refine bodyPost_ret (results_row_tmp rfl _ _ (w.heap.size + 1) 23 (crC (o, false, n, m)) (0, 0) _ rfl h3.blk Try.underlying23 rfl (cr_inf _) _ rfl) rfl ?_
              exact ⟨by rw [HG.out]; rfl, b1.trans (n3.below _ (by omega) b1.size)⟩
            · skip
              rw [h3] at hg
              have HG := Lib.hid hg
              clear hg
              go_enter Try.func19, Try.ntmps19
              go_wp2_with (first
                | (refine wpList_load_row rfl 23 (.tmp 2) rfl w.heap.size rfl 23 (crC (u, false, n, m)) (0, 0) _ k0.blk Try.underlying23 rfl (cr_inf _) ?_)
                | (refine hr.mono ?_; rintro e w1 ⟨rfl, bb⟩; obtain ⟨k1, kr1, b1⟩ := enter w1 bb; have q0 : w1.cell? ⟨w.heap.size, 0, none⟩ = some (.int .i64 u) := k1.cell 0; have q1 : w1.cell? ⟨w.heap.size, 1, none⟩ = some (.bool false) := k1.cell 1; have q2 : w1.cell? ⟨w.heap.size, 2, none⟩ = some (.bool n) := k1.cell 2; have q3 : w1.cell? ⟨w.heap.size, 3, none⟩ = some (.int .i64 m) := k1.cell 3)
                | (refine wpList_store_blk rfl 23 (.tmp 4) (.tmp 38) rfl (w.heap.size + 1) (crC cr0) (crC (o, false, n, m)) 23 rfl rfl kr1 rfl (cr_inf _) (cr_one _) ?_; intro w3 h3 n3))
              refine bodyPost_ret (results_row_tmp rfl _ _ (w.heap.size + 1) 23 (crC (o, false, n, m)) (0, 0) _ rfl h3.blk Try.underlying23 rfl (cr_inf _) _ rfl) rfl ?_
              exact ⟨by rw [HG.out]; rfl, b1.trans (n3.below _ (by omega) b1.size)⟩
          · skip
            rw [h4] at hg
            have HG := Lib.hid hg
            clear hg
            go_enter Try.func19, Try.ntmps19
            go_wp2_with (first
              | (refine wpList_load_row rfl 23 (.tmp 2) rfl w.heap.size rfl 23 (crC (u, false, n, m)) (0, 0) _ k0.blk Try.underlying23 rfl (cr_inf _) ?_)
              | (refine hr.mono ?_; rintro e w1 ⟨rfl, bb⟩; obtain ⟨k1, kr1, b1⟩ := enter w1 bb; have q0 : w1.cell? ⟨w.heap.size, 0, none⟩ = some (.int .i64 u) := k1.cell 0; have q1 : w1.cell? ⟨w.heap.size, 1, none⟩ = some (.bool false) := k1.cell 1; have q2 : w1.cell? ⟨w.heap.size, 2, none⟩ = some (.bool n) := k1.cell 2; have q3 : w1.cell? ⟨w.heap.size, 3, none⟩ = some (.int .i64 m) := k1.cell 3)
              | (refine wpList_store_blk rfl 23 (.tmp 4) (.tmp 26) rfl (w.heap.size + 1) (crC cr0) (crC cr0) 23 rfl rfl kr1 rfl (cr_inf _) (cr_one _) ?_; intro w3 h3 n3))
            refine bodyPost_ret (results_row_tmp rfl _ _ (w.heap.size + 1) 23 (crC cr0) (0, 0) _ rfl h3.blk Try.underlying23 rfl (cr_inf _) _ rfl) rfl ?_
            exact ⟨by rw [HG.out]; rfl, b1.trans (n3.below _ (by omega) b1.size)⟩
        · skip
          cases h3 : (o == 0)
          · skip
            rw [h3] at hg
            have HG := Lib.hid hg
            clear hg
            go_enter Try.func19, Try.ntmps19
            go_wp2_with (first
              | (refine wpList_load_row rfl 23 (.tmp 2) rfl w.heap.size rfl 23 (crC (u, true, n, m)) (0, 0) _ k0.blk Try.underlying23 rfl (cr_inf _) ?_)
              | (refine hr.mono ?_; rintro e w1 ⟨rfl, bb⟩; obtain ⟨k1, kr1, b1⟩ := enter w1 bb; have q0 : w1.cell? ⟨w.heap.size, 0, none⟩ = some (.int .i64 u) := k1.cell 0; have q1 : w1.cell? ⟨w.heap.size, 1, none⟩ = some (.bool true) := k1.cell 1; have q2 : w1.cell? ⟨w.heap.size, 2, none⟩ = some (.bool n) := k1.cell 2; have q3 : w1.cell? ⟨w.heap.size, 3, none⟩ = some (.int .i64 m) := k1.cell 3)
              | (refine wpList_store_blk rfl 23 (.tmp 4) (.tmp 38) rfl (w.heap.size + 1) (crC cr0) (crC (o, false, n, m)) 23 rfl rfl kr1 rfl (cr_inf _) (cr_one _) ?_; intro w3 h3 n3))
            refine bodyPost_ret (results_row_tmp rfl _ _ (w.heap.size + 1) 23 (crC (o, false, n, m)) (0, 0) _ rfl h3.blk Try.underlying23 rfl (cr_inf _) _ rfl) rfl ?_
            exact ⟨by rw [HG.out]; rfl, b1.trans (n3.below _ (by omega) b1.size)⟩
          · skip
            rw [h3] at hg
            have HG := Lib.hid hg
            clear hg
            go_enter Try.func19, Try.ntmps19
            go_wp2_with (first
              | (refine wpList_load_row rfl 23 (.tmp 2) rfl w.heap.size rfl 23 (crC (u, true, n, m)) (0, 0) _ k0.blk Try.underlying23 rfl (cr_inf _) ?_)
              | (refine hr.mono ?_; rintro e w1 ⟨rfl, bb⟩; obtain ⟨k1, kr1, b1⟩ := enter w1 bb; have q0 : w1.cell? ⟨w.heap.size, 0, none⟩ = some (.int .i64 u) := k1.cell 0; have q1 : w1.cell? ⟨w.heap.size, 1, none⟩ = some (.bool true) := k1.cell 1; have q2 : w1.cell? ⟨w.heap.size, 2, none⟩ = some (.bool n) := k1.cell 2; have q3 : w1.cell? ⟨w.heap.size, 3, none⟩ = some (.int .i64 m) := k1.cell 3)
              | (refine wpList_store_blk rfl 23 (.tmp 4) (.tmp 38) rfl (w.heap.size + 1) (crC cr0) (crC (o, true, n, m)) 23 rfl rfl kr1 rfl (cr_inf _) (cr_one _) ?_; intro w3 h3 n3))
            refine bodyPost_ret (results_row_tmp rfl _ _ (w.heap.size + 1) 23 (crC (o, true, n, m)) (0, 0) _ rfl h3.blk Try.underlying23 rfl (cr_inf _) _ rfl) rfl ?_
            exact ⟨by rw [HG.out]; rfl, b1.trans (n3.below _ (by omega) b1.size)⟩
      · skip
        rw [h2] at hg
        have HG := Lib.hid hg
        clear hg
        go_enter Try.func19, Try.ntmps19
        go_wp2_with (first
          | (refine wpList_load_row rfl 23 (.tmp 2) rfl w.heap.size rfl 23 (crC (u, a, n, m)) (0, 0) _ k0.blk Try.underlying23 rfl (cr_inf _) ?_)
          | (refine hr.mono ?_; rintro e w1 ⟨rfl, bb⟩; obtain ⟨k1, kr1, b1⟩ := enter w1 bb; have q0 : w1.cell? ⟨w.heap.size, 0, none⟩ = some (.int .i64 u) := k1.cell 0; have q1 : w1.cell? ⟨w.heap.size, 1, none⟩ = some (.bool a) := k1.cell 1; have q2 : w1.cell? ⟨w.heap.size, 2, none⟩ = some (.bool n) := k1.cell 2; have q3 : w1.cell? ⟨w.heap.size, 3, none⟩ = some (.int .i64 m) := k1.cell 3)
          | (refine wpList_store_blk rfl 23 (.tmp 4) (.tmp 16) rfl (w.heap.size + 1) (crC cr0) (crC cr0) 23 rfl rfl kr1 rfl (cr_inf _) (cr_one _) ?_; intro w3 h3 n3))
        refine bodyPost_ret (results_row_tmp rfl _ _ (w.heap.size + 1) 23 (crC cr0) (0, 0) _ rfl h3.blk Try.underlying23 rfl (cr_inf _) _ rfl) rfl ?_
        exact ⟨by rw [HG.out]; rfl, b1.trans (n3.below _ (by omega) b1.size)⟩
    · skip
      rw [h1] at hg
      have HG := Lib.hid hg
      clear hg
      go_enter Try.func19, Try.ntmps19
      go_wp2_with (first
        | (refine wpList_load_row rfl 23 (.tmp 2) rfl w.heap.size rfl 23 (crC (u, a, n, m)) (0, 0) _ k0.blk Try.underlying23 rfl (cr_inf _) ?_)
        | (refine hr.mono ?_; rintro e w1 ⟨rfl, bb⟩; obtain ⟨k1, kr1, b1⟩ := enter w1 bb; have q0 : w1.cell? ⟨w.heap.size, 0, none⟩ = some (.int .i64 u) := k1.cell 0; have q1 : w1.cell? ⟨w.heap.size, 1, none⟩ = some (.bool a) := k1.cell 1; have q2 : w1.cell? ⟨w.heap.size, 2, none⟩ = some (.bool n) := k1.cell 2; have q3 : w1.cell? ⟨w.heap.size, 3, none⟩ = some (.int .i64 m) := k1.cell 3)
        | (refine wpList_store_blk rfl 23 (.tmp 4) (.tmp 16) rfl (w.heap.size + 1) (crC cr0) (crC cr0) 23 rfl rfl kr1 rfl (cr_inf _) (cr_one _) ?_; intro w3 h3 n3))
      refine bodyPost_ret (results_row_tmp rfl _ _ (w.heap.size + 1) 23 (crC cr0) (0, 0) _ rfl h3.blk Try.underlying23 rfl (cr_inf _) _ rfl) rfl ?_
      exact ⟨by rw [HG.out]; rfl, b1.trans (n3.below _ (by omega) b1.size)⟩
end Go.Proofs.Yteoeflainejaaaa
