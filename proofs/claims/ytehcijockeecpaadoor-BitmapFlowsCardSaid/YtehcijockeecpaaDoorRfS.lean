/-
  The reference's small functions (wicketgateref07): of, alike, keep.
-/
import Derived.Test.YtehcijockeecpaaDoorHA
import Derived.Test.YtehcijockeecpaaDoorHF
namespace Go.Proofs.YtehcijockeecpaaDoor
open Go.RowKit
set_option linter.unusedVariables false
set_option linter.unusedSimpArgs false

/-- What two know alike, whatever they are. -/
def keepA (a b : Ab) : Ab := if a = b then a else ab0
theorem keep_alike {a b : Ab} (h : AbOk a) : keepA a b = alikeA a b := by
  unfold keepA alikeA
  by_cases e : a = b
  · rw [if_pos e]
    by_cases hk : a.k = true
    · rw [if_pos ⟨hk, e⟩]
    · rw [if_neg (fun q => hk q.1)]
      have hk' : a.k = false := by simpa using hk
      obtain ⟨k, v⟩ := a
      simp only at hk'
      subst hk'
      have := h.z rfl
      simp only at this
      subst this
      rfl
  · rw [if_neg e, if_neg (fun q => e q.2)]
theorem of_any (x : Int) (w : World) : Calls Tryd.prog 26 #[.int .u32 x] w fun e w' => e = .returned (abV (sureA x)) ∧ Below w.heap.size w w' := by
  go_enter Tryd.func26, Tryd.ntmps26
  go_wp2_with (refine wpList_store_blk rfl 27 (.tmp 2) (.tmp 4) rfl w.heap.size _ (abA (sureA x)) 27 rfl rfl (Blk.new_ _ _ _ rfl) rfl (abA_inf _) (abA_one _) ?_; intro w3 hw3 hn3)
  refine bodyPost_ret (v := abV (sureA x)) (results_cell_row rfl _ _ w.heap.size 27 (abA (sureA x)) (0, 0) _ rfl hw3.blk Tryd.underlying27 rfl (abA_inf _)) rfl ⟨rfl, ?_⟩
  exact ((Below.refl _ w).alloc (Nat.le_refl _) _).trans (hn3.below _ (Nat.le_refl _) (by simp))
set_option maxHeartbeats 1000000 in
theorem keep_any (a b : Ab) (w : World) : Calls Tryd.prog 44 #[abV a, abV b] w fun e w' => e = .returned (abV (keepA a b)) ∧ Below w.heap.size w w' := by
  have B0 := (((Below.refl _ w).alloc (Nat.le_refl _) (.cells (abA a) 27)).alloc (by simp) (.cells (abA b) 27)).alloc (by simp; omega) (.cells (abA ab0) 27)
  by_cases h : a = b
  · subst h
    rw [show keepA a a = a by simp [keepA]]
    obtain ⟨k, v⟩ := a
    have hv : (v == v) = true := by simp
    unfold abV
    cases k
    · go_enter Tryd.func44, Tryd.ntmps44
      go_wp2_with (refine wpList_store_blk rfl 27 (.tmp 4) (.tmp 8) rfl (w.heap.size + 1 + 1) _ (abA ⟨false, v⟩) 27 rfl rfl (Blk.new_ _ _ _ (by simp)) rfl (abA_inf _) (abA_one _) ?_; intro w3 hw3 hn3)
      refine bodyPost_ret (v := abV ⟨false, v⟩) (results_cell_row rfl _ _ (w.heap.size + 1 + 1) 27 (abA ⟨false, v⟩) (0, 0) _ rfl hw3.blk Tryd.underlying27 rfl (abA_inf _)) rfl ⟨rfl, ?_⟩
      exact B0.trans (hn3.below _ (by omega) (by simp; omega))
    · go_enter Tryd.func44, Tryd.ntmps44
      go_wp2_with (refine wpList_store_blk rfl 27 (.tmp 4) (.tmp 8) rfl (w.heap.size + 1 + 1) _ (abA ⟨true, v⟩) 27 rfl rfl (Blk.new_ _ _ _ (by simp)) rfl (abA_inf _) (abA_one _) ?_; intro w3 hw3 hn3)
      refine bodyPost_ret (v := abV ⟨true, v⟩) (results_cell_row rfl _ _ (w.heap.size + 1 + 1) 27 (abA ⟨true, v⟩) (0, 0) _ rfl hw3.blk Tryd.underlying27 rfl (abA_inf _)) rfl ⟨rfl, ?_⟩
      exact B0.trans (hn3.below _ (by omega) (by simp; omega))
  · rw [show keepA a b = ab0 by simp [keepA, h]]
    obtain ⟨k, v⟩ := a
    obtain ⟨k', v'⟩ := b
    unfold abV
    by_cases hk : k = k'
    · subst hk
      have hv : (v == v') = false := by simpa using fun e : v = v' => h (by rw [e])
      cases k
      · go_enter Tryd.func44, Tryd.ntmps44
        go_wp2_with (refine wpList_store_blk rfl 27 (.tmp 4) (.tmp 9) rfl (w.heap.size + 1 + 1) _ (abA ab0) 27 rfl rfl (Blk.new_ _ _ _ (by simp)) rfl (abA_inf _) (abA_one _) ?_; intro w3 hw3 hn3)
        refine bodyPost_ret (v := abV ab0) (results_cell_row rfl _ _ (w.heap.size + 1 + 1) 27 (abA ab0) (0, 0) _ rfl hw3.blk Tryd.underlying27 rfl (abA_inf _)) rfl ⟨rfl, ?_⟩
        exact B0.trans (hn3.below _ (by omega) (by simp; omega))
      · go_enter Tryd.func44, Tryd.ntmps44
        go_wp2_with (refine wpList_store_blk rfl 27 (.tmp 4) (.tmp 9) rfl (w.heap.size + 1 + 1) _ (abA ab0) 27 rfl rfl (Blk.new_ _ _ _ (by simp)) rfl (abA_inf _) (abA_one _) ?_; intro w3 hw3 hn3)
        refine bodyPost_ret (v := abV ab0) (results_cell_row rfl _ _ (w.heap.size + 1 + 1) 27 (abA ab0) (0, 0) _ rfl hw3.blk Tryd.underlying27 rfl (abA_inf _)) rfl ⟨rfl, ?_⟩
        exact B0.trans (hn3.below _ (by omega) (by simp; omega))
    · cases k <;> cases k'
      · exact absurd rfl hk
      · go_enter Tryd.func44, Tryd.ntmps44
        go_wp2_with (refine wpList_store_blk rfl 27 (.tmp 4) (.tmp 9) rfl (w.heap.size + 1 + 1) _ (abA ab0) 27 rfl rfl (Blk.new_ _ _ _ (by simp)) rfl (abA_inf _) (abA_one _) ?_; intro w3 hw3 hn3)
        refine bodyPost_ret (v := abV ab0) (results_cell_row rfl _ _ (w.heap.size + 1 + 1) 27 (abA ab0) (0, 0) _ rfl hw3.blk Tryd.underlying27 rfl (abA_inf _)) rfl ⟨rfl, ?_⟩
        exact B0.trans (hn3.below _ (by omega) (by simp; omega))
      · go_enter Tryd.func44, Tryd.ntmps44
        go_wp2_with (refine wpList_store_blk rfl 27 (.tmp 4) (.tmp 9) rfl (w.heap.size + 1 + 1) _ (abA ab0) 27 rfl rfl (Blk.new_ _ _ _ (by simp)) rfl (abA_inf _) (abA_one _) ?_; intro w3 hw3 hn3)
        refine bodyPost_ret (v := abV ab0) (results_cell_row rfl _ _ (w.heap.size + 1 + 1) 27 (abA ab0) (0, 0) _ rfl hw3.blk Tryd.underlying27 rfl (abA_inf _)) rfl ⟨rfl, ?_⟩
        exact B0.trans (hn3.below _ (by omega) (by simp; omega))
      · exact absurd rfl hk
set_option maxHeartbeats 1000000 in
theorem alike7_any (a b : Ab) (w : World) : Calls Tryd.prog 29 #[abV a, abV b] w fun e w' => e = .returned (abV (alikeA a b)) ∧ Below w.heap.size w w' := by
  have B0 := (((Below.refl _ w).alloc (Nat.le_refl _) (.cells (abA a) 27)).alloc (by simp) (.cells (abA b) 27)).alloc (by simp; omega) (.cells (abA ab0) 27)
  by_cases h : a.k = true ∧ a = b
  · obtain ⟨h, rfl⟩ := h
    rw [show alikeA a a = a by simp [alikeA, h]]
    obtain ⟨k, v⟩ := a
    cases h
    have hv : (v == v) = true := by simp
    unfold abV
    go_enter Tryd.func29, Tryd.ntmps29
    go_wp2_with (refine wpList_store_blk rfl 27 (.tmp 4) (.tmp 18) rfl (w.heap.size + 1 + 1) _ (abA ⟨true, v⟩) 27 rfl rfl (Blk.new_ _ _ _ (by simp)) rfl (abA_inf _) (abA_one _) ?_; intro w3 hw3 hn3)
    refine bodyPost_ret (v := abV ⟨true, v⟩) (results_cell_row rfl _ _ (w.heap.size + 1 + 1) 27 (abA ⟨true, v⟩) (0, 0) _ rfl hw3.blk Tryd.underlying27 rfl (abA_inf _)) rfl ⟨rfl, ?_⟩
    exact B0.trans (hn3.below _ (by omega) (by simp; omega))
  · rw [show alikeA a b = ab0 by simp [alikeA, h]]
    obtain ⟨k, v⟩ := a
    obtain ⟨k', v'⟩ := b
    unfold abV
    cases k
    · go_enter Tryd.func29, Tryd.ntmps29
      go_wp2_with (refine wpList_store_blk rfl 27 (.tmp 4) (.tmp 19) rfl (w.heap.size + 1 + 1) _ (abA ab0) 27 rfl rfl (Blk.new_ _ _ _ (by simp)) rfl (abA_inf _) (abA_one _) ?_; intro w3 hw3 hn3)
      refine bodyPost_ret (v := abV ab0) (results_cell_row rfl _ _ (w.heap.size + 1 + 1) 27 (abA ab0) (0, 0) _ rfl hw3.blk Tryd.underlying27 rfl (abA_inf _)) rfl ⟨rfl, ?_⟩
      exact B0.trans (hn3.below _ (by omega) (by simp; omega))
    · cases k'
      · go_enter Tryd.func29, Tryd.ntmps29
        go_wp2_with (refine wpList_store_blk rfl 27 (.tmp 4) (.tmp 19) rfl (w.heap.size + 1 + 1) _ (abA ab0) 27 rfl rfl (Blk.new_ _ _ _ (by simp)) rfl (abA_inf _) (abA_one _) ?_; intro w3 hw3 hn3)
        refine bodyPost_ret (v := abV ab0) (results_cell_row rfl _ _ (w.heap.size + 1 + 1) 27 (abA ab0) (0, 0) _ rfl hw3.blk Tryd.underlying27 rfl (abA_inf _)) rfl ⟨rfl, ?_⟩
        exact B0.trans (hn3.below _ (by omega) (by simp; omega))
      · have hv : (v == v') = false := by simpa using fun e : v = v' => h ⟨rfl, by rw [e]⟩
        go_enter Tryd.func29, Tryd.ntmps29
        go_wp2_with (refine wpList_store_blk rfl 27 (.tmp 4) (.tmp 19) rfl (w.heap.size + 1 + 1) _ (abA ab0) 27 rfl rfl (Blk.new_ _ _ _ (by simp)) rfl (abA_inf _) (abA_one _) ?_; intro w3 hw3 hn3)
        refine bodyPost_ret (v := abV ab0) (results_cell_row rfl _ _ (w.heap.size + 1 + 1) 27 (abA ab0) (0, 0) _ rfl hw3.blk Tryd.underlying27 rfl (abA_inf _)) rfl ⟨rfl, ?_⟩
        exact B0.trans (hn3.below _ (by omega) (by simp; omega))
end Go.Proofs.YtehcijockeecpaaDoor
