/-
  task.remove.
-/
import Derived.Test.YtlelhhgggnjndaaGreatQTpI
import Derived.Laws.OwnMore
import Derived.Test.YtlelhhgggnjndaaGreatQTpP
namespace Go.Proofs.YtlelhhgggnjndaaGreat
open Go.RowKit Go.Shelf
set_option linter.unusedVariables false
set_option linter.unusedSimpArgs false
theorem grown_trans3 {w w1 w2 : World} {g : Nat} (h : w.grownBy w1 (some g)) (k : w1.grownBy w2 (some g)) : w.grownBy w2 (some g) := ⟨k.os.trans h.os, k.tape.trans h.tape, k.output.trans h.output, Nat.le_trans h.size k.size, fun j hj hne => (k.block j (Nat.lt_of_lt_of_le hj h.size) hne).trans (h.block j hj hne)⟩
theorem wp_op_app {P : Program} {o : Oper} {a : Act} {w : World} {K : Act → World → Prop} {Q : Exit → Act → World → Prop} {t : TypeId} (s x : Operand) (ho : o.op = .call { callee := .builtin .append, args := #[s, x], argTypes := #[t, t] })
    {v1 v2 v' : Value} {w' : World} (hs : a.eval s = v1) (hx : a.eval x = v2) (hrun : (Builtin.append_ #[t, t] o.type #[v1, v2]).run P w = .ok v' w') (h : K (a.put o.dst v') w') : Oper.wp P o a w K Q := by
  unfold Oper.wp execOp
  simp only [ho, resolve, invoke, builtin, Sem.run_bind, Sem.run_pure, Result.andThen_ok, List.map_toArray, List.map_cons, List.map_nil, hs, hx, hrun]
  exact h
def delL {α : Type} (k : Nat) (L : List α) : List α := L.take k ++ L.drop (k + 1)
theorem run_delP {w : World} {base g m c k : Nat} {L : List Pw} (ty : TypeId) (a : Addr) (sc : Nat) (h : RoP w base (some ⟨g, 0, none⟩) m c L) (hk : k < m) (ha : k + 1 < m → a = ⟨g, (k + 1) * 3, none⟩) :
    ∃ W, (Builtin.append_ #[25, 25] ty #[.slice (some ⟨g, 0, none⟩) k c, .slice (some a) (m - (k + 1)) sc]).run Tryz.prog w = .ok (.slice (some ⟨g, 0, none⟩) (m - 1) c) W ∧ RoP W base (some ⟨g, 0, none⟩) (m - 1) c (delL k L) ∧ w.grownBy W (some g) := by
  obtain ⟨i, hi, hz, hs1, hb1⟩ := info_parts pr_info3
  have hm := h.len
  have hcap := h.cap
  have h1 := h.take (k := k) (by omega)
  have hn : ∀ j u, (flatP (L.drop (k + 1)))[j]? = some u → w.cell? (a.add j) = some u := fun j u hj => by
    have hd : 0 < (flatP (L.drop (k + 1))).length := by
      rcases Nat.eq_zero_or_pos (flatP (L.drop (k + 1))).length with e | e
      · rw [List.eq_nil_of_length_eq_zero e] at hj; cases hj
      · exact e
    rw [flatP_len, List.length_drop] at hd
    rw [ha (by omega), r_add]
    rcases h.form with ⟨e, _⟩ | ⟨g', e, hb, hlt, cur, hh, h2, h3, h4, h5⟩
    · cases e
    · cases e
      rw [← flatP_drop, List.getElem?_drop, ← h5, List.getElem?_take] at hj
      split at hj
      · simp only [World.cell?, hh]; simpa using hj
      · cases hj
  obtain ⟨W, hr, ho, hg⟩ := run_append_fits (P := Tryz.prog) w base 25 ty 49 i 3 Tryz.underlying25 hi hs1 g k c (flatP (L.take k)) h1 a (m - (k + 1)) sc (flatP (L.drop (k + 1))) (by rw [flatP_len, List.length_drop, ← hm]) hn (flatP_one _) (by omega)
  have e : k + (m - (k + 1)) = m - 1 := by omega
  rw [e] at hr ho
  refine ⟨W, hr, ?_, hg⟩
  unfold RoP delL
  rw [flatP_append]
  exact ho
theorem run_spareP {w : World} {base g m c n : Nat} {L : List Pw} (ty : TypeId) (cc : Nat) (h : RoP w base (some ⟨g, 0, none⟩) m c L) (hn : m + (n + 1) ≤ c) :
    ∃ W, (Builtin.clear_ #[25] ty #[.slice (some ⟨g, m * 3, none⟩) (n + 1) cc]).run Tryz.prog w = .ok (.tuple #[]) W ∧ RoP W base (some ⟨g, 0, none⟩) m c L ∧ w.grownBy W (some g) := by
  rcases h.form with ⟨e, _⟩ | ⟨g', e, hb, hlt, cur, hh, h1, h2, h3, h4⟩
  · cases e
  · cases e
    have hm := h.len
    obtain ⟨i, hi, hz, hs1, hb1⟩ := info_parts pr_info3
    have hzl : (Builtin.zeroCells (prV pw0).cells (n + 1)).toList.length = (n + 1) * 3 := by
      rw [Array.length_toList]; simp [Builtin.zeroCells, Value.cells, prV, prC]
    have hone : ∀ u ∈ (Builtin.zeroCells (prV pw0).cells (n + 1)).toList, u.oneCell' = true := by
      intro u hu
      rw [Array.mem_toList_iff] at hu
      obtain ⟨j, hj, e⟩ := Array.getElem_of_mem hu
      rw [← e]
      simp only [Builtin.zeroCells, Value.cells, prV, Array.getElem_map]
      refine pr_oneL pw0 _ ?_
      rw [Array.mem_toList_iff, getElem!_pos (prC pw0) _ (Nat.mod_lt _ (show 0 < (prC pw0).size by rw [pr_size]; omega))]
      exact Array.getElem_mem _
    have hst := run_storeCells_at Tryz.prog g (m * 3) 49 (Builtin.zeroCells (prV pw0).cells (n + 1)).toList 0 cur w hh (by rw [hzl, h3]; omega) hone
    obtain ⟨C, hC⟩ : ∃ C : Array Value, C = (cur.toList.take (m * 3) ++ (Builtin.zeroCells (prV pw0).cells (n + 1)).toList ++ cur.toList.drop (m * 3 + (n + 1) * 3)).toArray := ⟨_, rfl⟩
    simp only [Nat.add_zero, hzl] at hst
    rw [← hC] at hst
    refine ⟨w.setRow g C, by
      simp [Builtin.clear_, run_underlying Tryz.underlying25, zeroValue, typeInfo, hi, hz, hst], ?_⟩
    have hgr : w.grownBy (w.setRow g C) (some g) := ⟨rfl, rfl, rfl, by simp, fun j hj hne => setRow_other w g j C (fun e => hne (by rw [e]))⟩
    have hl1 : (cur.toList.take (m * 3)).length = m * 3 := by rw [List.length_take, Array.length_toList, h3]; omega
    refine ⟨ro_blockP hb (setRow_heap w g cur C _ _ hh) h1 h2 ?_ ?_ hm, hgr⟩
    · rw [hC, List.size_toArray, List.length_append, List.length_append, hl1, hzl, List.length_drop, Array.length_toList, h3]; omega
    · rw [hC, List.append_assoc, List.take_append_of_le_length (by rw [hl1]; omega), List.take_of_length_le (by rw [hl1]; omega), h4]
set_option maxRecDepth 100000 in
set_option maxHeartbeats 8000000 in
theorem del_P (base g m c k : Nat) (L : List Pw) (w : World) (h : RoP w base (some ⟨g, 0, none⟩) m c L) (h6 : m ≤ 100000) (hk : k < m) :
    Calls Tryz.prog 102 #[.slice (some ⟨g, 0, none⟩) m c, .int .i64 k, .int .i64 ((k : Int) + 1)] w fun e w' => e = .returned (.slice (some ⟨g, 0, none⟩) (m - 1 : Nat) c) ∧ RoP w' base (some ⟨g, 0, none⟩) (m - 1) c (delL k L) ∧ w.grownBy w' (some g) := by
  have hcap := h.cap
  have hcc : c ≤ 9223372036854775807 := by
    rcases h.form with ⟨e, _⟩ | ⟨_, _, _, _, _, _, _, h3, _⟩
    · cases e
    · simp only [maxLen] at h3; omega
  have hd := h.below (Below.refl w.heap.size w).drew (Nat.le_refl _)
  have hgd : w.grownBy w.drew (some g) := ⟨rfl, rfl, rfl, Nat.le_refl _, fun j hj _ => rfl⟩
  have HH := Lib.hid (And.intro hd hgd)
  have hne : ((k : Int) == (k : Int) + 1) = false := by simp; omega
  have hp1 : (k : Int) ≤ (k : Int) + 1 := by omega
  have hp2 : (k : Int) + 1 ≤ (m : Int) := by omega
  have hp3 : (m : Int) ≤ (c : Int) := by omega
  have hp4 : (0 : Int) ≤ (k : Int) + 1 := by omega
  have htn : ((k : Int) + 1).toNat = k + 1 := by omega
  have hp5 : (k : Int) ≤ (c : Int) := by omega
  have hp6 : k ≤ c := by omega
  have hp7 : k + 1 ≤ m := by omega
  clear hd hgd h
  by_cases hck : c = k + 1
  · have hmk : m = k + 1 := by omega
    go_enter Tryz.func102, Tryz.ntmps102
    go_wp2_with fail
    try simp only [Act.put]
    refine region_cutP ?_
    have J : True := trivial
    refine wp_region_held_drew (S := fun _ => True) (by kernel_rfl) J (fun _ => ?_)
    refine wpAnyH_take (i := 0) (v := .slice (some ⟨g, 0, none⟩) m c) rfl (by kernel_rfl) (by kernel_rfl) (by kernel_rfl) (fun _ _ _ h => nomatch h.1) (.inl ⟨by rfl, fun V hV => by go_simp⟩) J ?_
    try simp only [Act.put, qA, qB, qC, qD, qE, qF]
    refine wpAnyH_take (i := 1) (v := .int .i64 k) rfl (by kernel_rfl) (by kernel_rfl) (by kernel_rfl) (fun _ _ _ h => nomatch h.1) (.inl ⟨by rfl, fun V hV => by go_simp⟩) J ?_
    try simp only [Act.put, qA, qB, qC, qD, qE, qF]
    refine wpAnyH_take (i := 2) (v := .slice (some ⟨g, 0, none⟩) k c) rfl (by kernel_rfl) (by kernel_rfl) (by kernel_rfl) (fun _ _ _ h => nomatch h.1) (.inl ⟨by rfl, fun V hV => by go_simp⟩) J ?_
    try simp only [Act.put, qA, qB, qC, qD, qE, qF]
    refine wpAnyH_take (i := 3) (v := .slice (some ⟨g, 0, none⟩) m c) rfl (by kernel_rfl) (by kernel_rfl) (by kernel_rfl) (fun _ _ _ h => nomatch h.1) (.inl ⟨by rfl, fun V hV => by go_simp⟩) J ?_
    try simp only [Act.put, qA, qB, qC, qD, qE, qF]
    refine wpAnyH_take (i := 4) (v := .int .i64 ((k : Int) + 1)) rfl (by kernel_rfl) (by kernel_rfl) (by kernel_rfl) (fun _ _ _ h => nomatch h.1) (.inl ⟨by rfl, fun V hV => by go_simp⟩) J ?_
    try simp only [Act.put, qA, qB, qC, qD, qE, qF]
    refine wpAnyH_take (i := 5) (v := .slice (some ⟨g, 0, none⟩) (m - (k + 1)) (c - (k + 1))) rfl (by kernel_rfl) (by kernel_rfl) (by kernel_rfl) (fun _ _ _ h => nomatch h.1) (.inl ⟨by rfl, fun V hV => by go_simp⟩) J ?_
    try simp only [Act.put, qA, qB, qC, qD, qE, qF]
    generalize w.drew = wd at HH ⊢
    obtain ⟨W1, hr, ho, hg⟩ := run_delP 25 ⟨g, 0, none⟩ (c - (k + 1)) HH.out.1 hk (fun h => absurd h (by omega))
    refine wpAnyH_ready (rs := [6]) (by kernel_rfl) (by simp) ?_
    refine AllReadyH.cons rfl (fun K hK => ?_) AllReadyH.nil
    try simp only [Act.put, qA, qB, qC, qD, qE, qF]
    refine wp_op_app (.tmp 22) (.tmp 25) rfl rfl rfl hr ?_
    refine hK.out _ _ J (fun _ => ?_)
    clear hK K
    try simp only [Act.put, qA, qB, qC, qD, qE, qF]
    refine wpAnyH_take (i := 7) (v := .slice (some ⟨g, 0, none⟩) (m - 1) c) rfl (by kernel_rfl) (by kernel_rfl) (by kernel_rfl) (fun _ _ _ h => nomatch h.1) (.inl ⟨by rfl, fun V hV => by go_simp⟩) J ?_
    try simp only [Act.put, qA, qB, qC, qD, qE, qF]
    refine wpAnyH_done (by kernel_rfl) ?_ _
    refine ⟨rfl, ?_⟩
    obtain ⟨Wc, hcl, ho2, hg2⟩ : ∃ Wc, (∀ ty, (Builtin.clear_ #[25] ty #[.slice (some ⟨g, k * 3, none⟩) 1 1]).run Tryz.prog W1 = .ok (.tuple #[]) Wc) ∧ RoP Wc base (some ⟨g, 0, none⟩) (m - 1) c (delL k L) ∧ W1.grownBy Wc (some g) := by
      obtain ⟨Wc, h5, h6, h7⟩ := run_spareP 0 1 (n := 0) ho (by omega)
      rw [show m - 1 = k by omega] at h5
      exact ⟨Wc, fun ty => h5, h6, h7⟩
    have hq1 : ¬ (c = m - 1) := by omega
    have hq2 : m - 1 ≤ m := by omega
    have hq3 : m ≤ c := hcap
    have hq4 : m - 1 ≤ c := by omega
    have HZ := Lib.hid (And.intro ho2 (grown_trans3 HH.out.2 (grown_trans3 hg hg2)))
    clear HH hr ho hg ho2 hg2
    go_wp2_with fail
    go_ret
    exact ⟨rfl, HZ.out.1, HZ.out.2⟩
  · go_enter Tryz.func102, Tryz.ntmps102
    go_wp2_with fail
    try simp only [Act.put]
    refine region_cutP ?_
    have J : True := trivial
    refine wp_region_held_drew (S := fun _ => True) (by kernel_rfl) J (fun _ => ?_)
    refine wpAnyH_take (i := 0) (v := .slice (some ⟨g, 0, none⟩) m c) rfl (by kernel_rfl) (by kernel_rfl) (by kernel_rfl) (fun _ _ _ h => nomatch h.1) (.inl ⟨by rfl, fun V hV => by go_simp⟩) J ?_
    try simp only [Act.put, qA, qB, qC, qD, qE, qF]
    refine wpAnyH_take (i := 1) (v := .int .i64 k) rfl (by kernel_rfl) (by kernel_rfl) (by kernel_rfl) (fun _ _ _ h => nomatch h.1) (.inl ⟨by rfl, fun V hV => by go_simp⟩) J ?_
    try simp only [Act.put, qA, qB, qC, qD, qE, qF]
    refine wpAnyH_take (i := 2) (v := .slice (some ⟨g, 0, none⟩) k c) rfl (by kernel_rfl) (by kernel_rfl) (by kernel_rfl) (fun _ _ _ h => nomatch h.1) (.inl ⟨by rfl, fun V hV => by go_simp⟩) J ?_
    try simp only [Act.put, qA, qB, qC, qD, qE, qF]
    refine wpAnyH_take (i := 3) (v := .slice (some ⟨g, 0, none⟩) m c) rfl (by kernel_rfl) (by kernel_rfl) (by kernel_rfl) (fun _ _ _ h => nomatch h.1) (.inl ⟨by rfl, fun V hV => by go_simp⟩) J ?_
    try simp only [Act.put, qA, qB, qC, qD, qE, qF]
    refine wpAnyH_take (i := 4) (v := .int .i64 ((k : Int) + 1)) rfl (by kernel_rfl) (by kernel_rfl) (by kernel_rfl) (fun _ _ _ h => nomatch h.1) (.inl ⟨by rfl, fun V hV => by go_simp⟩) J ?_
    try simp only [Act.put, qA, qB, qC, qD, qE, qF]
    refine wpAnyH_take (i := 5) (v := .slice (some ⟨g, (k + 1) * 3, none⟩) (m - (k + 1)) (c - (k + 1))) rfl (by kernel_rfl) (by kernel_rfl) (by kernel_rfl) (fun _ _ _ h => nomatch h.1) (.inl ⟨by rfl, fun V hV => by go_simp⟩) J ?_
    try simp only [Act.put, qA, qB, qC, qD, qE, qF]
    generalize w.drew = wd at HH ⊢
    obtain ⟨W1, hr, ho, hg⟩ := run_delP 25 ⟨g, (k + 1) * 3, none⟩ (c - (k + 1)) HH.out.1 hk (fun h => rfl)
    refine wpAnyH_ready (rs := [6]) (by kernel_rfl) (by simp) ?_
    refine AllReadyH.cons rfl (fun K hK => ?_) AllReadyH.nil
    try simp only [Act.put, qA, qB, qC, qD, qE, qF]
    refine wp_op_app (.tmp 22) (.tmp 25) rfl rfl rfl hr ?_
    refine hK.out _ _ J (fun _ => ?_)
    clear hK K
    try simp only [Act.put, qA, qB, qC, qD, qE, qF]
    refine wpAnyH_take (i := 7) (v := .slice (some ⟨g, 0, none⟩) (m - 1) c) rfl (by kernel_rfl) (by kernel_rfl) (by kernel_rfl) (fun _ _ _ h => nomatch h.1) (.inl ⟨by rfl, fun V hV => by go_simp⟩) J ?_
    try simp only [Act.put, qA, qB, qC, qD, qE, qF]
    refine wpAnyH_done (by kernel_rfl) ?_ _
    refine ⟨rfl, ?_⟩
    obtain ⟨Wc, hcl, ho2, hg2⟩ : ∃ Wc, (∀ ty, (Builtin.clear_ #[25] ty #[.slice (some ⟨g, (m - 1) * 3, none⟩) (m - (m - 1)) (c - (m - 1))]).run Tryz.prog W1 = .ok (.tuple #[]) Wc) ∧ RoP Wc base (some ⟨g, 0, none⟩) (m - 1) c (delL k L) ∧ W1.grownBy Wc (some g) := by
      obtain ⟨Wc, h5, h6, h7⟩ := run_spareP 0 (c - (m - 1)) (n := 0) ho (by omega)
      rw [show m - (m - 1) = 0 + 1 by omega]
      exact ⟨Wc, fun ty => h5, h6, h7⟩
    have hq1 : ¬ (c = m - 1) := by omega
    have hq2 : m - 1 ≤ m := by omega
    have hq3 : m ≤ c := hcap
    have hq4 : m - 1 ≤ c := by omega
    have HZ := Lib.hid (And.intro ho2 (grown_trans3 HH.out.2 (grown_trans3 hg hg2)))
    clear HH hr ho hg ho2 hg2
    go_wp2_with fail
    go_ret
    exact ⟨rfl, HZ.out.1, HZ.out.2⟩
end Go.Proofs.YtlelhhgggnjndaaGreat
namespace Go.Proofs.YtlelhhgggnjndaaGreat
open Go.RowKit Go.Shelf
set_option linter.unusedVariables false
set_option linter.unusedSimpArgs false
theorem delL_mem {k : Nat} {L : List Pw} {x : Pw} (h : x ∈ delL k L) : x ∈ L := by
  unfold delL at h
  rcases List.mem_append.1 h with h | h
  · exact List.mem_of_mem_take h
  · exact List.mem_of_mem_drop h
theorem delL_getD {k : Nat} {L : List Pw} (i : Nat) (hk : k < L.length) : (delL k L).getD i pw0 = L.getD (if i < k then i else i + 1) pw0 := by
  unfold delL
  simp only [List.getD]
  congr 1
  have hl : (L.take k).length = k := by rw [List.length_take]; omega
  by_cases h : i < k
  · rw [if_pos h, List.getElem?_append_left (by omega), List.getElem?_take_of_lt h]
  · rw [if_neg h, List.getElem?_append_right (by omega), hl, List.getElem?_drop]
    congr 1
    omega
theorem OwnT.freed {V W : World} {B g gP m c : Nat} {L : List Pw} {U l' : List Int} {Ua A' : Option Addr} {um uc m' c' : Nat} {cs : Array Value} (h : OwnT V B Ua um uc U (some ⟨gP, 0, none⟩) m c L) (k : Blk V g cs 27) (hB : B ≤ V.heap.size) (z : Zo W V.heap.size A' m' c' l') (nb : But g V W) : OwnT W B A' m' c' l' (some ⟨gP, 0, none⟩) m c L :=
  ⟨z.down hB, own_kind h.p (grown_but nb) (fun g' e => by cases e; exact ⟨_, _, k, by decide⟩), fun y hy => own_kind (h.q y hy) (grown_but nb) (fun g' e => by cases e; exact ⟨_, _, k, by decide⟩), h.qd, fun y hy g' e e2 => by
    have h1 := (zo_at (h.q y hy) e).2
    have h2 := (zo_at z e2).1
    omega⟩
theorem OwnT.cut {V W : World} {B gP m c p : Nat} {L : List Pw} {U : List Int} {Ua : Option Addr} {um uc : Nat} (h : OwnT V B Ua um uc U (some ⟨gP, 0, none⟩) m c L) (hp : p < L.length) (r : RoP W B (some ⟨gP, 0, none⟩) (m - 1) c (delL p L)) (hg : V.grownBy W (some gP)) : OwnT W B Ua um uc U (some ⟨gP, 0, none⟩) (m - 1) c (delL p L) := by
  obtain ⟨curP, kP⟩ := roP_blk h.p rfl
  have hd : ∀ g', some gP = some g' → ∃ cs t, Blk V g' cs t ∧ t ≠ 3 := fun g' e => by cases e; exact ⟨_, _, kP, by decide⟩
  have hl : (delL p L).length = L.length - 1 := by unfold delL; rw [List.length_append, List.length_take, List.length_drop]; omega
  refine ⟨own_kind h.u hg hd, r, fun x hx => own_kind (h.q x (delL_mem hx)) hg hd, fun i j hi hj hij g' h1 => ?_, fun x hx => h.ud x (delL_mem hx)⟩
  rw [delL_getD _ hp] at h1 ⊢
  refine h.qd _ _ ?_ ?_ ?_ g' h1
  · split <;> omega
  · split <;> omega
  · split <;> split <;> omega
set_option maxRecDepth 100000 in
set_option maxHeartbeats 8000000 in
theorem remove_tk (a : Int) (V : World) (B g : Nat) (Ua : Option Addr) (um uc : Nat) (U : List Int) (gP m c : Nat) (L : List Pw) (p : Nat)
    (own : OwnT V B Ua um uc U (some ⟨gP, 0, none⟩) m c L) (kg : Blk V g (tkC a Ua um uc (some ⟨gP, 0, none⟩) m c) 27) (hBg : B ≤ g) (hpl : p < L.length) (hu6 : um ≤ 1000000) (hm6 : m ≤ 100000) :
    Calls Tryz.prog 72 #[.pointer (some ⟨g, 0, none⟩), .int .i64 p] V fun e W => e = .returned (.tuple #[]) ∧ ∃ Ua' um' uc' a' l' er, freeV a U (L.getD p pw0).1.i = (a', l', er) ∧ Blk W g (tkC a' Ua' um' uc' (some ⟨gP, 0, none⟩) (m - 1) c) 27 ∧ OwnT W B Ua' um' uc' l' (some ⟨gP, 0, none⟩) (m - 1) c (delL p L) ∧ Below B V W := by
  have hgV := kg.lt
  have hBV : B ≤ V.heap.size := Nat.le_trans hBg (Nat.le_of_lt hgV)
  have hm : (p : Int) < (m : Int) := by have := own.p.len; omega
  obtain ⟨b7, off7, he7, hb7, hc7⟩ := own.p.rs p hpl
  cases he7
  rw [Nat.zero_add] at hc7
  have t0 : V.cell? ⟨gP, p * 3, none⟩ = some (.int .i64 (L.getD p pw0).1.i) := hc7 0 _ rfl
  have q2 : V.cell? ⟨g, 2, none⟩ = some (.slice (some ⟨gP, 0, none⟩) m c) := kg.cell 2
  obtain ⟨gQ, hA7, hgQ, _⟩ := own.p.at0 (by omega)
  have hgP : B ≤ gP := by cases hA7; exact hgQ
  generalize hi : (L.getD p pw0).1.i = pid at t0 ⊢
  have FR := Lib.hid (free_tk g a Ua um uc U (some ⟨gP, 0, none⟩) m c pid V kg own.u.ri own.u.len hu6)
  have HO := Lib.hid own
  have HK := Lib.hid kg
  have H6 := Lib.hid (And.intro hm6 hpl)
  have HW := Lib.hid (show wrap64 ((p : Int) + 1) = (p : Int) + 1 from (by unfold wrap64; omega))
  clear own kg hc7 hb7 hi hu6 hm6 hpl hA7 hgQ
  go_enter Tryz.func72, Tryz.ntmps72
  go_wp2_with (first
    | (refine FR.out.mono ?_
       clear FR
       rintro e w1 ⟨A', m', c', a', l', er, rfl, kg1, z1, hv, nb⟩
       have o1 := HO.out.freed HK.out hBV z1 nb
       have HO1 := Lib.hid (And.intro o1 (And.intro kg1 (And.intro nb hv)))
       have q3 : w1.cell? ⟨g, 2, none⟩ = some (.slice (some ⟨gP, 0, none⟩) m c) := kg1.cell 2
       have DL := Lib.hid (del_P B gP m c p L w1 o1.p H6.out.1 (by omega))
       clear o1 kg1 nb hv z1)
    | (rw [HW.out]
       refine DL.out.mono ?_
       clear DL HW
       rintro e w2 ⟨rfl, r2, g2⟩
       have o2 := HO1.out.1.cut H6.out.2 r2 g2
       obtain ⟨curP, kP⟩ := roP_blk HO1.out.1.p rfl
       have kg2 : Blk w2 g _ 27 := ⟨(g2.block g HO1.out.2.1.lt (fun e => by cases e; exact absurd (blk_kind HO1.out.2.1 kP) (by decide))).trans HO1.out.2.1.blk⟩
       have HO2 := Lib.hid (And.intro o2 (And.intro kg2 (but_grown g2)))
       have q4 : w2.cell? ⟨g, 2, none⟩ = some (.slice (some ⟨gP, 0, none⟩) m c) := kg2.cell 2
       have f4 := kg2.frozen 2
       clear o2 kg2 r2 g2))
  refine bodyPost_end (results_none rfl _ _ _) rfl ?_
  have k3 := HO2.out.2.1.set_ 2 (.slice (some ⟨gP, 0, none⟩) (m - 1 : Nat) c)
  have n3 : But g w2 (w2.setCell ⟨g, 2, none⟩ (.slice (some ⟨gP, 0, none⟩) (m - 1 : Nat) c)) := (But.refl g w2).setCell (p := ⟨g, 2, none⟩) (.inl rfl) _
  have b1 := HO1.out.2.2.1.below B hBg hBV
  have b2 := HO2.out.2.2.below B hgP (Nat.le_trans hBV b1.size)
  exact ⟨rfl, _, _, _, _, _, _, HO1.out.2.2.2, k3, HO2.out.1.kind n3 HO2.out.2.1 (by decide) (by decide), (b1.trans b2).trans (n3.below B hBg (Nat.le_trans (Nat.le_trans hBV b1.size) b2.size))⟩
end Go.Proofs.YtlelhhgggnjndaaGreat
