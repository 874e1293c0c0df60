/-
  slices.Delete at rows of three cells.
-/
import Derived.Test.YtfohifnbohdbcaaQScRi
import Derived.Test.YtfohifnbohdbcaaQScKd
import Derived.Laws.OwnMore
namespace Go.Proofs.Ytfohifnbohdbcaa
open Go.RowKit Go.Shelf
set_option linter.unusedVariables false
set_option linter.unusedSimpArgs false
theorem run_delR {w : World} {base g m c k : Nat} {L : List Rn} (ty : TypeId) (a : Addr) (sc : Nat) (h : RoR w base (some ⟨g, 0, none⟩) m c L) (hk : k < m) (ha : k + 1 < m → a = ⟨g, (k + 1) * 3, none⟩) :
    ∃ W, (Builtin.append_ #[22, 22] ty #[.slice (some ⟨g, 0, none⟩) k c, .slice (some a) (m - (k + 1)) sc]).run Try.prog w = .ok (.slice (some ⟨g, 0, none⟩) (m - 1) c) W ∧ RoR W base (some ⟨g, 0, none⟩) (m - 1) c (delL k L) ∧ w.grownBy W (some g) := by
  obtain ⟨i, hi, hz, hs1, hb1⟩ := info_parts rn_info3
  have hm := h.len
  have hcap := h.cap
  have h1 := h.take (k := k) (by omega)
  have hn : ∀ j u, (flatR (L.drop (k + 1)))[j]? = some u → w.cell? (a.add j) = some u := fun j u hj => by
    have hd : 0 < (flatR (L.drop (k + 1))).length := by
      rcases Nat.eq_zero_or_pos (flatR (L.drop (k + 1))).length with e | e
      · rw [List.eq_nil_of_length_eq_zero e] at hj; cases hj
      · exact e
    rw [flatR_len, List.length_drop] at hd
    rw [ha (by omega), r_add]
    rcases h.form with ⟨e, _⟩ | ⟨g', e, hb, hlt, cur, hh, h2, h3, h4, h5⟩
    · cases e
    · cases e
      rw [← flatR_drop, List.getElem?_drop, ← h5, List.getElem?_take] at hj
      split at hj
      · simp only [World.cell?, hh]; simpa using hj
      · cases hj
  obtain ⟨W, hr, ho, hg⟩ := run_append_fits (P := Try.prog) w base 22 ty 52 i 3 Try.underlying22 hi hs1 g k c (flatR (L.take k)) h1 a (m - (k + 1)) sc (flatR (L.drop (k + 1))) (by rw [flatR_len, List.length_drop, ← hm]) hn (flatR_one _) (by omega)
  have e : k + (m - (k + 1)) = m - 1 := by omega
  rw [e] at hr ho
  refine ⟨W, hr, ?_, hg⟩
  unfold RoR delL
  rw [flatR_append]
  exact ho
theorem run_spareR {w : World} {base g m c n : Nat} {L : List Rn} (ty : TypeId) (cc : Nat) (h : RoR w base (some ⟨g, 0, none⟩) m c L) (hn : m + (n + 1) ≤ c) :
    ∃ W, (Builtin.clear_ #[22] ty #[.slice (some ⟨g, m * 3, none⟩) (n + 1) cc]).run Try.prog w = .ok (.tuple #[]) W ∧ RoR W base (some ⟨g, 0, none⟩) m c L ∧ w.grownBy W (some g) := by
  rcases h.form with ⟨e, _⟩ | ⟨g', e, hb, hlt, cur, hh, h1, h2, h3, h4⟩
  · cases e
  · cases e
    have hm := h.len
    obtain ⟨i, hi, hz, hs1, hb1⟩ := info_parts rn_info3
    have hzl : (Builtin.zeroCells (rnV rn0).cells (n + 1)).toList.length = (n + 1) * 3 := by
      rw [Array.length_toList]; simp [Builtin.zeroCells, Value.cells, rnV, rnC]
    have hone : ∀ u ∈ (Builtin.zeroCells (rnV rn0).cells (n + 1)).toList, u.oneCell' = true := by
      intro u hu
      rw [Array.mem_toList_iff] at hu
      obtain ⟨j, hj, e⟩ := Array.getElem_of_mem hu
      rw [← e]
      simp only [Builtin.zeroCells, Value.cells, rnV, Array.getElem_map]
      refine rn_oneL rn0 _ ?_
      rw [Array.mem_toList_iff, getElem!_pos (rnC rn0) _ (Nat.mod_lt _ (show 0 < (rnC rn0).size by rw [rn_size]; omega))]
      exact Array.getElem_mem _
    have hst := run_storeCells_at Try.prog g (m * 3) 52 (Builtin.zeroCells (rnV rn0).cells (n + 1)).toList 0 cur w hh (by rw [hzl, h3]; omega) hone
    obtain ⟨C, hC⟩ : ∃ C : Array Value, C = (cur.toList.take (m * 3) ++ (Builtin.zeroCells (rnV rn0).cells (n + 1)).toList ++ cur.toList.drop (m * 3 + (n + 1) * 3)).toArray := ⟨_, rfl⟩
    simp only [Nat.add_zero, hzl] at hst
    rw [← hC] at hst
    refine ⟨w.setRow g C, by
      simp [Builtin.clear_, run_underlying Try.underlying22, zeroValue, typeInfo, hi, hz, hst], ?_⟩
    have hgr : w.grownBy (w.setRow g C) (some g) := ⟨rfl, rfl, rfl, by simp, fun j hj hne => setRow_other w g j C (fun e => hne (by rw [e]))⟩
    have hl1 : (cur.toList.take (m * 3)).length = m * 3 := by rw [List.length_take, Array.length_toList, h3]; omega
    refine ⟨ro_blockR hb (setRow_heap w g cur C _ _ hh) h1 h2 ?_ ?_ hm, hgr⟩
    · rw [hC, List.size_toArray, List.length_append, List.length_append, hl1, hzl, List.length_drop, Array.length_toList, h3]; omega
    · rw [hC, List.append_assoc, List.take_append_of_le_length (by rw [hl1]; omega), List.take_of_length_le (by rw [hl1]; omega), h4]
set_option maxRecDepth 100000 in
set_option maxHeartbeats 8000000 in
theorem del_R (base g m c k : Nat) (L : List Rn) (w : World) (h : RoR w base (some ⟨g, 0, none⟩) m c L) (h6 : m ≤ 100000) (hk : k < m) :
    Calls Try.prog 48 #[.slice (some ⟨g, 0, none⟩) m c, .int .i64 k, .int .i64 ((k : Int) + 1)] w fun e w' => e = .returned (.slice (some ⟨g, 0, none⟩) (m - 1 : Nat) c) ∧ RoR w' base (some ⟨g, 0, none⟩) (m - 1) c (delL k L) ∧ w.grownBy w' (some g) := by
  have hcap := h.cap
  have hcc : c ≤ 9223372036854775807 := by
    rcases h.form with ⟨e, _⟩ | ⟨_, _, _, _, _, _, _, h3, _⟩
    · cases e
    · simp only [maxLen] at h3; omega
  have hd := h.below (Below.refl w.heap.size w).drew (Nat.le_refl _)
  have hgd : w.grownBy w.drew (some g) := ⟨rfl, rfl, rfl, Nat.le_refl _, fun j hj _ => rfl⟩
  have HH := Lib.hid (And.intro hd hgd)
  have hne : ((k : Int) == (k : Int) + 1) = false := by simp; omega
  have hp1 : (k : Int) ≤ (k : Int) + 1 := by omega
  have hp2 : (k : Int) + 1 ≤ (m : Int) := by omega
  have hp3 : (m : Int) ≤ (c : Int) := by omega
  have hp4 : (0 : Int) ≤ (k : Int) + 1 := by omega
  have htn : ((k : Int) + 1).toNat = k + 1 := by omega
  have hp5 : (k : Int) ≤ (c : Int) := by omega
  have hp6 : k ≤ c := by omega
  have hp7 : k + 1 ≤ m := by omega
  clear hd hgd h
  by_cases hck : c = k + 1
  · have hmk : m = k + 1 := by omega
    go_enter Try.func48, Try.ntmps48
    go_wp2_with fail
    try simp only [Act.put]
    refine region_cutP ?_
    have J : True := trivial
    refine wp_region_held_drew (S := fun _ => True) (by kernel_rfl) J (fun _ => ?_)
    refine wpAnyH_take (i := 0) (v := .slice (some ⟨g, 0, none⟩) m c) rfl (by kernel_rfl) (by kernel_rfl) (by kernel_rfl) (fun _ _ _ h => nomatch h.1) (.inl ⟨by rfl, fun V hV => by go_simp⟩) J ?_
    try simp only [Act.put, List.getElem_toArray, List.getElem_cons_zero, List.getElem_cons_succ, List.setIfInBounds_toArray, List.set_cons_zero, List.set_cons_succ]
    refine wpAnyH_take (i := 1) (v := .int .i64 k) rfl (by kernel_rfl) (by kernel_rfl) (by kernel_rfl) (fun _ _ _ h => nomatch h.1) (.inl ⟨by rfl, fun V hV => by go_simp⟩) J ?_
    try simp only [Act.put, List.getElem_toArray, List.getElem_cons_zero, List.getElem_cons_succ, List.setIfInBounds_toArray, List.set_cons_zero, List.set_cons_succ]
    refine wpAnyH_take (i := 2) (v := .slice (some ⟨g, 0, none⟩) k c) rfl (by kernel_rfl) (by kernel_rfl) (by kernel_rfl) (fun _ _ _ h => nomatch h.1) (.inl ⟨by rfl, fun V hV => by go_simp⟩) J ?_
    try simp only [Act.put, List.getElem_toArray, List.getElem_cons_zero, List.getElem_cons_succ, List.setIfInBounds_toArray, List.set_cons_zero, List.set_cons_succ]
    refine wpAnyH_take (i := 3) (v := .slice (some ⟨g, 0, none⟩) m c) rfl (by kernel_rfl) (by kernel_rfl) (by kernel_rfl) (fun _ _ _ h => nomatch h.1) (.inl ⟨by rfl, fun V hV => by go_simp⟩) J ?_
    try simp only [Act.put, List.getElem_toArray, List.getElem_cons_zero, List.getElem_cons_succ, List.setIfInBounds_toArray, List.set_cons_zero, List.set_cons_succ]
    refine wpAnyH_take (i := 4) (v := .int .i64 ((k : Int) + 1)) rfl (by kernel_rfl) (by kernel_rfl) (by kernel_rfl) (fun _ _ _ h => nomatch h.1) (.inl ⟨by rfl, fun V hV => by go_simp⟩) J ?_
    try simp only [Act.put, List.getElem_toArray, List.getElem_cons_zero, List.getElem_cons_succ, List.setIfInBounds_toArray, List.set_cons_zero, List.set_cons_succ]
    refine wpAnyH_take (i := 5) (v := .slice (some ⟨g, 0, none⟩) (m - (k + 1)) (c - (k + 1))) rfl (by kernel_rfl) (by kernel_rfl) (by kernel_rfl) (fun _ _ _ h => nomatch h.1) (.inl ⟨by rfl, fun V hV => by go_simp⟩) J ?_
    try simp only [Act.put, List.getElem_toArray, List.getElem_cons_zero, List.getElem_cons_succ, List.setIfInBounds_toArray, List.set_cons_zero, List.set_cons_succ]
    generalize w.drew = wd at HH ⊢
    obtain ⟨W1, hr, ho, hg⟩ := run_delR 22 ⟨g, 0, none⟩ (c - (k + 1)) HH.out.1 hk (fun h => absurd h (by omega))
    refine wpAnyH_ready (rs := [6]) (by kernel_rfl) (by simp) ?_
    refine AllReadyH.cons rfl (fun K hK => ?_) AllReadyH.nil
    try simp only [Act.put, List.getElem_toArray, List.getElem_cons_zero, List.getElem_cons_succ, List.setIfInBounds_toArray, List.set_cons_zero, List.set_cons_succ]
    refine wp_op_app (.tmp 22) (.tmp 25) rfl rfl rfl hr ?_
    refine hK.out _ _ J (fun _ => ?_)
    clear hK K
    try simp only [Act.put, List.getElem_toArray, List.getElem_cons_zero, List.getElem_cons_succ, List.setIfInBounds_toArray, List.set_cons_zero, List.set_cons_succ]
    refine wpAnyH_take (i := 7) (v := .slice (some ⟨g, 0, none⟩) (m - 1) c) rfl (by kernel_rfl) (by kernel_rfl) (by kernel_rfl) (fun _ _ _ h => nomatch h.1) (.inl ⟨by rfl, fun V hV => by go_simp⟩) J ?_
    try simp only [Act.put, List.getElem_toArray, List.getElem_cons_zero, List.getElem_cons_succ, List.setIfInBounds_toArray, List.set_cons_zero, List.set_cons_succ]
    refine wpAnyH_done (by kernel_rfl) ?_ _
    refine ⟨rfl, ?_⟩
    obtain ⟨Wc, hcl, ho2, hg2⟩ : ∃ Wc, (∀ ty, (Builtin.clear_ #[22] ty #[.slice (some ⟨g, k * 3, none⟩) 1 1]).run Try.prog W1 = .ok (.tuple #[]) Wc) ∧ RoR Wc base (some ⟨g, 0, none⟩) (m - 1) c (delL k L) ∧ W1.grownBy Wc (some g) := by
      obtain ⟨Wc, h5, h6, h7⟩ := run_spareR 0 1 (n := 0) ho (by omega)
      rw [show m - 1 = k by omega] at h5
      exact ⟨Wc, fun ty => h5, h6, h7⟩
    have hq1 : ¬ (c = m - 1) := by omega
    have hq2 : m - 1 ≤ m := by omega
    have hq3 : m ≤ c := hcap
    have hq4 : m - 1 ≤ c := by omega
    have HZ := Lib.hid (And.intro ho2 (grown_trans3 HH.out.2 (grown_trans3 hg hg2)))
    clear HH hr ho hg ho2 hg2
    go_wp2_with fail
    go_ret
    exact ⟨rfl, HZ.out.1, HZ.out.2⟩
  · go_enter Try.func48, Try.ntmps48
    go_wp2_with fail
    try simp only [Act.put]
    refine region_cutP ?_
    have J : True := trivial
    refine wp_region_held_drew (S := fun _ => True) (by kernel_rfl) J (fun _ => ?_)
    refine wpAnyH_take (i := 0) (v := .slice (some ⟨g, 0, none⟩) m c) rfl (by kernel_rfl) (by kernel_rfl) (by kernel_rfl) (fun _ _ _ h => nomatch h.1) (.inl ⟨by rfl, fun V hV => by go_simp⟩) J ?_
    try simp only [Act.put, List.getElem_toArray, List.getElem_cons_zero, List.getElem_cons_succ, List.setIfInBounds_toArray, List.set_cons_zero, List.set_cons_succ]
    refine wpAnyH_take (i := 1) (v := .int .i64 k) rfl (by kernel_rfl) (by kernel_rfl) (by kernel_rfl) (fun _ _ _ h => nomatch h.1) (.inl ⟨by rfl, fun V hV => by go_simp⟩) J ?_
    try simp only [Act.put, List.getElem_toArray, List.getElem_cons_zero, List.getElem_cons_succ, List.setIfInBounds_toArray, List.set_cons_zero, List.set_cons_succ]
    refine wpAnyH_take (i := 2) (v := .slice (some ⟨g, 0, none⟩) k c) rfl (by kernel_rfl) (by kernel_rfl) (by kernel_rfl) (fun _ _ _ h => nomatch h.1) (.inl ⟨by rfl, fun V hV => by go_simp⟩) J ?_
    try simp only [Act.put, List.getElem_toArray, List.getElem_cons_zero, List.getElem_cons_succ, List.setIfInBounds_toArray, List.set_cons_zero, List.set_cons_succ]
    refine wpAnyH_take (i := 3) (v := .slice (some ⟨g, 0, none⟩) m c) rfl (by kernel_rfl) (by kernel_rfl) (by kernel_rfl) (fun _ _ _ h => nomatch h.1) (.inl ⟨by rfl, fun V hV => by go_simp⟩) J ?_
    try simp only [Act.put, List.getElem_toArray, List.getElem_cons_zero, List.getElem_cons_succ, List.setIfInBounds_toArray, List.set_cons_zero, List.set_cons_succ]
    refine wpAnyH_take (i := 4) (v := .int .i64 ((k : Int) + 1)) rfl (by kernel_rfl) (by kernel_rfl) (by kernel_rfl) (fun _ _ _ h => nomatch h.1) (.inl ⟨by rfl, fun V hV => by go_simp⟩) J ?_
    try simp only [Act.put, List.getElem_toArray, List.getElem_cons_zero, List.getElem_cons_succ, List.setIfInBounds_toArray, List.set_cons_zero, List.set_cons_succ]
    refine wpAnyH_take (i := 5) (v := .slice (some ⟨g, (k + 1) * 3, none⟩) (m - (k + 1)) (c - (k + 1))) rfl (by kernel_rfl) (by kernel_rfl) (by kernel_rfl) (fun _ _ _ h => nomatch h.1) (.inl ⟨by rfl, fun V hV => by go_simp⟩) J ?_
    try simp only [Act.put, List.getElem_toArray, List.getElem_cons_zero, List.getElem_cons_succ, List.setIfInBounds_toArray, List.set_cons_zero, List.set_cons_succ]
    generalize w.drew = wd at HH ⊢
    obtain ⟨W1, hr, ho, hg⟩ := run_delR 22 ⟨g, (k + 1) * 3, none⟩ (c - (k + 1)) HH.out.1 hk (fun h => rfl)
    refine wpAnyH_ready (rs := [6]) (by kernel_rfl) (by simp) ?_
    refine AllReadyH.cons rfl (fun K hK => ?_) AllReadyH.nil
    try simp only [Act.put, List.getElem_toArray, List.getElem_cons_zero, List.getElem_cons_succ, List.setIfInBounds_toArray, List.set_cons_zero, List.set_cons_succ]
    refine wp_op_app (.tmp 22) (.tmp 25) rfl rfl rfl hr ?_
    refine hK.out _ _ J (fun _ => ?_)
    clear hK K
    try simp only [Act.put, List.getElem_toArray, List.getElem_cons_zero, List.getElem_cons_succ, List.setIfInBounds_toArray, List.set_cons_zero, List.set_cons_succ]
    refine wpAnyH_take (i := 7) (v := .slice (some ⟨g, 0, none⟩) (m - 1) c) rfl (by kernel_rfl) (by kernel_rfl) (by kernel_rfl) (fun _ _ _ h => nomatch h.1) (.inl ⟨by rfl, fun V hV => by go_simp⟩) J ?_
    try simp only [Act.put, List.getElem_toArray, List.getElem_cons_zero, List.getElem_cons_succ, List.setIfInBounds_toArray, List.set_cons_zero, List.set_cons_succ]
    refine wpAnyH_done (by kernel_rfl) ?_ _
    refine ⟨rfl, ?_⟩
    obtain ⟨Wc, hcl, ho2, hg2⟩ : ∃ Wc, (∀ ty, (Builtin.clear_ #[22] ty #[.slice (some ⟨g, (m - 1) * 3, none⟩) (m - (m - 1)) (c - (m - 1))]).run Try.prog W1 = .ok (.tuple #[]) Wc) ∧ RoR Wc base (some ⟨g, 0, none⟩) (m - 1) c (delL k L) ∧ W1.grownBy Wc (some g) := by
      obtain ⟨Wc, h5, h6, h7⟩ := run_spareR 0 (c - (m - 1)) (n := 0) ho (by omega)
      rw [show m - (m - 1) = 0 + 1 by omega]
      exact ⟨Wc, fun ty => h5, h6, h7⟩
    have hq1 : ¬ (c = m - 1) := by omega
    have hq2 : m - 1 ≤ m := by omega
    have hq3 : m ≤ c := hcap
    have hq4 : m - 1 ≤ c := by omega
    have HZ := Lib.hid (And.intro ho2 (grown_trans3 HH.out.2 (grown_trans3 hg hg2)))
    clear HH hr ho hg ho2 hg2
    go_wp2_with fail
    go_ret
    exact ⟨rfl, HZ.out.1, HZ.out.2⟩
end Go.Proofs.Ytfohifnbohdbcaa
