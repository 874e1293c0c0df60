/-
  slices.Delete at rows of three cells.
-/
import Derived.Test.YtolalbpjaebfdaaQScKi
import Derived.Test.YtolalbpjaebfdaaQScTa
import Derived.Laws.OwnMore
namespace Go.Proofs.Ytolalbpjaebfdaa
open Go.RowKit Go.Shelf
set_option linter.unusedVariables false
set_option linter.unusedSimpArgs false
theorem grown_trans3 {w w1 w2 : World} {g : Nat} (h : w.grownBy w1 (some g)) (k : w1.grownBy w2 (some g)) : w.grownBy w2 (some g) := ⟨k.os.trans h.os, k.tape.trans h.tape, k.output.trans h.output, Nat.le_trans h.size k.size, fun j hj hne => (k.block j (Nat.lt_of_lt_of_le hj h.size) hne).trans (h.block j hj hne)⟩
def delL {α : Type} (k : Nat) (L : List α) : List α := L.take k ++ L.drop (k + 1)
theorem run_delK {w : World} {base g m c k : Nat} {L : List Kw} (ty : TypeId) (a : Addr) (sc : Nat) (h : RoK w base (some ⟨g, 0, none⟩) m c L) (hk : k < m) (ha : k + 1 < m → a = ⟨g, (k + 1) * 3, none⟩) :
    ∃ W, (Builtin.append_ #[23, 23] ty #[.slice (some ⟨g, 0, none⟩) k c, .slice (some a) (m - (k + 1)) sc]).run Try.prog w = .ok (.slice (some ⟨g, 0, none⟩) (m - 1) c) W ∧ RoK W base (some ⟨g, 0, none⟩) (m - 1) c (delL k L) ∧ w.grownBy W (some g) := by
  obtain ⟨i, hi, hz, hs1, hb1⟩ := info_parts kw_info3
  have hm := h.len
  have hcap := h.cap
  have h1 := h.take (k := k) (by omega)
  have hn : ∀ j u, (flatK (L.drop (k + 1)))[j]? = some u → w.cell? (a.add j) = some u := fun j u hj => by
    have hd : 0 < (flatK (L.drop (k + 1))).length := by
      rcases Nat.eq_zero_or_pos (flatK (L.drop (k + 1))).length with e | e
      · rw [List.eq_nil_of_length_eq_zero e] at hj; cases hj
      · exact e
    rw [flatK_len, List.length_drop] at hd
    rw [ha (by omega), r_add]
    rcases h.form with ⟨e, _⟩ | ⟨g', e, hb, hlt, cur, hh, h2, h3, h4, h5⟩
    · cases e
    · cases e
      rw [← flatK_drop, List.getElem?_drop, ← h5, List.getElem?_take] at hj
      split at hj
      · simp only [World.cell?, hh]; simpa using hj
      · cases hj
  obtain ⟨W, hr, ho, hg⟩ := run_append_fits (P := Try.prog) w base 23 ty 48 i 3 Try.underlying23 hi hs1 g k c (flatK (L.take k)) h1 a (m - (k + 1)) sc (flatK (L.drop (k + 1))) (by rw [flatK_len, List.length_drop, ← hm]) hn (flatK_one _) (by omega)
  have e : k + (m - (k + 1)) = m - 1 := by omega
  rw [e] at hr ho
  refine ⟨W, hr, ?_, hg⟩
  unfold RoK delL
  rw [flatK_append]
  exact ho
theorem run_spareK {w : World} {base g m c n : Nat} {L : List Kw} (ty : TypeId) (cc : Nat) (h : RoK w base (some ⟨g, 0, none⟩) m c L) (hn : m + (n + 1) ≤ c) :
    ∃ W, (Builtin.clear_ #[23] ty #[.slice (some ⟨g, m * 3, none⟩) (n + 1) cc]).run Try.prog w = .ok (.tuple #[]) W ∧ RoK W base (some ⟨g, 0, none⟩) m c L ∧ w.grownBy W (some g) := by
  rcases h.form with ⟨e, _⟩ | ⟨g', e, hb, hlt, cur, hh, h1, h2, h3, h4⟩
  · cases e
  · cases e
    have hm := h.len
    obtain ⟨i, hi, hz, hs1, hb1⟩ := info_parts kw_info3
    have hzl : (Builtin.zeroCells (kwV kw0).cells (n + 1)).toList.length = (n + 1) * 3 := by
      rw [Array.length_toList]; simp [Builtin.zeroCells, Value.cells, kwV, kwC]
    have hone : ∀ u ∈ (Builtin.zeroCells (kwV kw0).cells (n + 1)).toList, u.oneCell' = true := by
      intro u hu
      rw [Array.mem_toList_iff] at hu
      obtain ⟨j, hj, e⟩ := Array.getElem_of_mem hu
      rw [← e]
      simp only [Builtin.zeroCells, Value.cells, kwV, Array.getElem_map]
      refine kw_oneL kw0 _ ?_
      rw [Array.mem_toList_iff, getElem!_pos (kwC kw0) _ (Nat.mod_lt _ (show 0 < (kwC kw0).size by rw [kw_size]; omega))]
      exact Array.getElem_mem _
    have hst := run_storeCells_at Try.prog g (m * 3) 48 (Builtin.zeroCells (kwV kw0).cells (n + 1)).toList 0 cur w hh (by rw [hzl, h3]; omega) hone
    obtain ⟨C, hC⟩ : ∃ C : Array Value, C = (cur.toList.take (m * 3) ++ (Builtin.zeroCells (kwV kw0).cells (n + 1)).toList ++ cur.toList.drop (m * 3 + (n + 1) * 3)).toArray := ⟨_, rfl⟩
    simp only [Nat.add_zero, hzl] at hst
    rw [← hC] at hst
    refine ⟨w.setRow g C, by
      simp [Builtin.clear_, run_underlying Try.underlying23, zeroValue, typeInfo, hi, hz, hst], ?_⟩
    have hgr : w.grownBy (w.setRow g C) (some g) := ⟨rfl, rfl, rfl, by simp, fun j hj hne => setRow_other w g j C (fun e => hne (by rw [e]))⟩
    have hl1 : (cur.toList.take (m * 3)).length = m * 3 := by rw [List.length_take, Array.length_toList, h3]; omega
    refine ⟨ro_blockK hb (setRow_heap w g cur C _ _ hh) h1 h2 ?_ ?_ hm, hgr⟩
    · rw [hC, List.size_toArray, List.length_append, List.length_append, hl1, hzl, List.length_drop, Array.length_toList, h3]; omega
    · rw [hC, List.append_assoc, List.take_append_of_le_length (by rw [hl1]; omega), List.take_of_length_le (by rw [hl1]; omega), h4]
set_option maxRecDepth 100000 in
set_option maxHeartbeats 8000000 in
theorem del_K (base g m c k : Nat) (L : List Kw) (w : World) (h : RoK w base (some ⟨g, 0, none⟩) m c L) (h6 : m ≤ 100000) (hk : k < m) :
    Calls Try.prog 75 #[.slice (some ⟨g, 0, none⟩) m c, .int .i64 k, .int .i64 ((k : Int) + 1)] w fun e w' => e = .returned (.slice (some ⟨g, 0, none⟩) (m - 1 : Nat) c) ∧ RoK w' base (some ⟨g, 0, none⟩) (m - 1) c (delL k L) ∧ w.grownBy w' (some g) := by
  have hcap := h.cap
  have hcc : c ≤ 9223372036854775807 := by
    rcases h.form with ⟨e, _⟩ | ⟨_, _, _, _, _, _, _, h3, _⟩
    · cases e
    · simp only [maxLen] at h3; omega
  have hd := h.below (Below.refl w.heap.size w).drew (Nat.le_refl _)
  have hgd : w.grownBy w.drew (some g) := ⟨rfl, rfl, rfl, Nat.le_refl _, fun j hj _ => rfl⟩
  have HH := Lib.hid (And.intro hd hgd)
  have hne : ((k : Int) == (k : Int) + 1) = false := by simp; omega
  have hp1 : (k : Int) ≤ (k : Int) + 1 := by omega
  have hp2 : (k : Int) + 1 ≤ (m : Int) := by omega
  have hp3 : (m : Int) ≤ (c : Int) := by omega
  have hp4 : (0 : Int) ≤ (k : Int) + 1 := by omega
  have htn : ((k : Int) + 1).toNat = k + 1 := by omega
  have hp5 : (k : Int) ≤ (c : Int) := by omega
  have hp6 : k ≤ c := by omega
  have hp7 : k + 1 ≤ m := by omega
  clear hd hgd h
  by_cases hck : c = k + 1
  · have hmk : m = k + 1 := by omega
    go_enter Try.func75, Try.ntmps75
    go_wp2_with fail
    try simp only [Act.put]
    refine region_cutP ?_
    have J : True := trivial
    refine wp_region_held_drew (S := fun _ => True) (by kernel_rfl) J (fun _ => ?_)
    refine wpAnyH_take (i := 0) (v := .slice (some ⟨g, 0, none⟩) m c) rfl (by kernel_rfl) (by kernel_rfl) (by kernel_rfl) (fun _ _ _ h => nomatch h.1) (.inl ⟨by rfl, fun V hV => by go_simp⟩) J ?_
    try simp only [Act.put, List.getElem_toArray, List.getElem_cons_zero, List.getElem_cons_succ, List.setIfInBounds_toArray, List.set_cons_zero, List.set_cons_succ]
    refine wpAnyH_take (i := 1) (v := .int .i64 k) rfl (by kernel_rfl) (by kernel_rfl) (by kernel_rfl) (fun _ _ _ h => nomatch h.1) (.inl ⟨by rfl, fun V hV => by go_simp⟩) J ?_
    try simp only [Act.put, List.getElem_toArray, List.getElem_cons_zero, List.getElem_cons_succ, List.setIfInBounds_toArray, List.set_cons_zero, List.set_cons_succ]
    refine wpAnyH_take (i := 2) (v := .slice (some ⟨g, 0, none⟩) k c) rfl (by kernel_rfl) (by kernel_rfl) (by kernel_rfl) (fun _ _ _ h => nomatch h.1) (.inl ⟨by rfl, fun V hV => by go_simp⟩) J ?_
    try simp only [Act.put, List.getElem_toArray, List.getElem_cons_zero, List.getElem_cons_succ, List.setIfInBounds_toArray, List.set_cons_zero, List.set_cons_succ]
    refine wpAnyH_take (i := 3) (v := .slice (some ⟨g, 0, none⟩) m c) rfl (by kernel_rfl) (by kernel_rfl) (by kernel_rfl) (fun _ _ _ h => nomatch h.1) (.inl ⟨by rfl, fun V hV => by go_simp⟩) J ?_
    try simp only [Act.put, List.getElem_toArray, List.getElem_cons_zero, List.getElem_cons_succ, List.setIfInBounds_toArray, List.set_cons_zero, List.set_cons_succ]
    refine wpAnyH_take (i := 4) (v := .int .i64 ((k : Int) + 1)) rfl (by kernel_rfl) (by kernel_rfl) (by kernel_rfl) (fun _ _ _ h => nomatch h.1) (.inl ⟨by rfl, fun V hV => by go_simp⟩) J ?_
    try simp only [Act.put, List.getElem_toArray, List.getElem_cons_zero, List.getElem_cons_succ, List.setIfInBounds_toArray, List.set_cons_zero, List.set_cons_succ]
    refine wpAnyH_take (i := 5) (v := .slice (some ⟨g, 0, none⟩) (m - (k + 1)) (c - (k + 1))) rfl (by kernel_rfl) (by kernel_rfl) (by kernel_rfl) (fun _ _ _ h => nomatch h.1) (.inl ⟨by rfl, fun V hV => by go_simp⟩) J ?_
    try simp only [Act.put, List.getElem_toArray, List.getElem_cons_zero, List.getElem_cons_succ, List.setIfInBounds_toArray, List.set_cons_zero, List.set_cons_succ]
    generalize w.drew = wd at HH ⊢
    obtain ⟨W1, hr, ho, hg⟩ := run_delK 23 ⟨g, 0, none⟩ (c - (k + 1)) HH.out.1 hk (fun h => absurd h (by omega))
    refine wpAnyH_ready (rs := [6]) (by kernel_rfl) (by simp) ?_
    refine AllReadyH.cons rfl (fun K hK => ?_) AllReadyH.nil
    try simp only [Act.put, List.getElem_toArray, List.getElem_cons_zero, List.getElem_cons_succ, List.setIfInBounds_toArray, List.set_cons_zero, List.set_cons_succ]
    refine wp_op_app (.tmp 22) (.tmp 25) rfl rfl rfl hr ?_
    refine hK.out _ _ J (fun _ => ?_)
    clear hK K
    try simp only [Act.put, List.getElem_toArray, List.getElem_cons_zero, List.getElem_cons_succ, List.setIfInBounds_toArray, List.set_cons_zero, List.set_cons_succ]
    refine wpAnyH_take (i := 7) (v := .slice (some ⟨g, 0, none⟩) (m - 1) c) rfl (by kernel_rfl) (by kernel_rfl) (by kernel_rfl) (fun _ _ _ h => nomatch h.1) (.inl ⟨by rfl, fun V hV => by go_simp⟩) J ?_
    try simp only [Act.put, List.getElem_toArray, List.getElem_cons_zero, List.getElem_cons_succ, List.setIfInBounds_toArray, List.set_cons_zero, List.set_cons_succ]
    refine wpAnyH_done (by kernel_rfl) ?_ _
    refine ⟨rfl, ?_⟩
    obtain ⟨Wc, hcl, ho2, hg2⟩ : ∃ Wc, (∀ ty, (Builtin.clear_ #[23] ty #[.slice (some ⟨g, k * 3, none⟩) 1 1]).run Try.prog W1 = .ok (.tuple #[]) Wc) ∧ RoK Wc base (some ⟨g, 0, none⟩) (m - 1) c (delL k L) ∧ W1.grownBy Wc (some g) := by
      obtain ⟨Wc, h5, h6, h7⟩ := run_spareK 0 1 (n := 0) ho (by omega)
      rw [show m - 1 = k by omega] at h5
      exact ⟨Wc, fun ty => h5, h6, h7⟩
    have hq1 : ¬ (c = m - 1) := by omega
    have hq2 : m - 1 ≤ m := by omega
    have hq3 : m ≤ c := hcap
    have hq4 : m - 1 ≤ c := by omega
    have HZ := Lib.hid (And.intro ho2 (grown_trans3 HH.out.2 (grown_trans3 hg hg2)))
    clear HH hr ho hg ho2 hg2
    go_wp2_with fail
    go_ret
    exact ⟨rfl, HZ.out.1, HZ.out.2⟩
  · go_enter Try.func75, Try.ntmps75
    go_wp2_with fail
    try simp only [Act.put]
    refine region_cutP ?_
    have J : True := trivial
    refine wp_region_held_drew (S := fun _ => True) (by kernel_rfl) J (fun _ => ?_)
    refine wpAnyH_take (i := 0) (v := .slice (some ⟨g, 0, none⟩) m c) rfl (by kernel_rfl) (by kernel_rfl) (by kernel_rfl) (fun _ _ _ h => nomatch h.1) (.inl ⟨by rfl, fun V hV => by go_simp⟩) J ?_
    try simp only [Act.put, List.getElem_toArray, List.getElem_cons_zero, List.getElem_cons_succ, List.setIfInBounds_toArray, List.set_cons_zero, List.set_cons_succ]
    refine wpAnyH_take (i := 1) (v := .int .i64 k) rfl (by kernel_rfl) (by kernel_rfl) (by kernel_rfl) (fun _ _ _ h => nomatch h.1) (.inl ⟨by rfl, fun V hV => by go_simp⟩) J ?_
    try simp only [Act.put, List.getElem_toArray, List.getElem_cons_zero, List.getElem_cons_succ, List.setIfInBounds_toArray, List.set_cons_zero, List.set_cons_succ]
    refine wpAnyH_take (i := 2) (v := .slice (some ⟨g, 0, none⟩) k c) rfl (by kernel_rfl) (by kernel_rfl) (by kernel_rfl) (fun _ _ _ h => nomatch h.1) (.inl ⟨by rfl, fun V hV => by go_simp⟩) J ?_
    try simp only [Act.put, List.getElem_toArray, List.getElem_cons_zero, List.getElem_cons_succ, List.setIfInBounds_toArray, List.set_cons_zero, List.set_cons_succ]
    refine wpAnyH_take (i := 3) (v := .slice (some ⟨g, 0, none⟩) m c) rfl (by kernel_rfl) (by kernel_rfl) (by kernel_rfl) (fun _ _ _ h => nomatch h.1) (.inl ⟨by rfl, fun V hV => by go_simp⟩) J ?_
    try simp only [Act.put, List.getElem_toArray, List.getElem_cons_zero, List.getElem_cons_succ, List.setIfInBounds_toArray, List.set_cons_zero, List.set_cons_succ]
    refine wpAnyH_take (i := 4) (v := .int .i64 ((k : Int) + 1)) rfl (by kernel_rfl) (by kernel_rfl) (by kernel_rfl) (fun _ _ _ h => nomatch h.1) (.inl ⟨by rfl, fun V hV => by go_simp⟩) J ?_
    try simp only [Act.put, List.getElem_toArray, List.getElem_cons_zero, List.getElem_cons_succ, List.setIfInBounds_toArray, List.set_cons_zero, List.set_cons_succ]
    refine wpAnyH_take (i := 5) (v := .slice (some ⟨g, (k + 1) * 3, none⟩) (m - (k + 1)) (c - (k + 1))) rfl (by kernel_rfl) (by kernel_rfl) (by kernel_rfl) (fun _ _ _ h => nomatch h.1) (.inl ⟨by rfl, fun V hV => by go_simp⟩) J ?_
    try simp only [Act.put, List.getElem_toArray, List.getElem_cons_zero, List.getElem_cons_succ, List.setIfInBounds_toArray, List.set_cons_zero, List.set_cons_succ]
    generalize w.drew = wd at HH ⊢
    obtain ⟨W1, hr, ho, hg⟩ := run_delK 23 ⟨g, (k + 1) * 3, none⟩ (c - (k + 1)) HH.out.1 hk (fun h => rfl)
    refine wpAnyH_ready (rs := [6]) (by kernel_rfl) (by simp) ?_
    refine AllReadyH.cons rfl (fun K hK => ?_) AllReadyH.nil
    try simp only [Act.put, List.getElem_toArray, List.getElem_cons_zero, List.getElem_cons_succ, List.setIfInBounds_toArray, List.set_cons_zero, List.set_cons_succ]
    refine wp_op_app (.tmp 22) (.tmp 25) rfl rfl rfl hr ?_
    refine hK.out _ _ J (fun _ => ?_)
    clear hK K
    try simp only [Act.put, List.getElem_toArray, List.getElem_cons_zero, List.getElem_cons_succ, List.setIfInBounds_toArray, List.set_cons_zero, List.set_cons_succ]
    refine wpAnyH_take (i := 7) (v := .slice (some ⟨g, 0, none⟩) (m - 1) c) rfl (by kernel_rfl) (by kernel_rfl) (by kernel_rfl) (fun _ _ _ h => nomatch h.1) (.inl ⟨by rfl, fun V hV => by go_simp⟩) J ?_
    try simp only [Act.put, List.getElem_toArray, List.getElem_cons_zero, List.getElem_cons_succ, List.setIfInBounds_toArray, List.set_cons_zero, List.set_cons_succ]
    refine wpAnyH_done (by kernel_rfl) ?_ _
    refine ⟨rfl, ?_⟩
    obtain ⟨Wc, hcl, ho2, hg2⟩ : ∃ Wc, (∀ ty, (Builtin.clear_ #[23] ty #[.slice (some ⟨g, (m - 1) * 3, none⟩) (m - (m - 1)) (c - (m - 1))]).run Try.prog W1 = .ok (.tuple #[]) Wc) ∧ RoK Wc base (some ⟨g, 0, none⟩) (m - 1) c (delL k L) ∧ W1.grownBy Wc (some g) := by
      obtain ⟨Wc, h5, h6, h7⟩ := run_spareK 0 (c - (m - 1)) (n := 0) ho (by omega)
      rw [show m - (m - 1) = 0 + 1 by omega]
      exact ⟨Wc, fun ty => h5, h6, h7⟩
    have hq1 : ¬ (c = m - 1) := by omega
    have hq2 : m - 1 ≤ m := by omega
    have hq3 : m ≤ c := hcap
    have hq4 : m - 1 ≤ c := by omega
    have HZ := Lib.hid (And.intro ho2 (grown_trans3 HH.out.2 (grown_trans3 hg hg2)))
    clear HH hr ho hg ho2 hg2
    go_wp2_with fail
    go_ret
    exact ⟨rfl, HZ.out.1, HZ.out.2⟩
end Go.Proofs.Ytolalbpjaebfdaa
