/-
  The law's Op.id.
-/
import Derived.Test.YtlelhhgggnjndaaGreatQTsB
import Derived.Test.YtlelhhgggnjndaaGreatQTqV
import Derived.Test.YtlelhhgggnjndaaGreatQPiRg
namespace Go.Proofs.YtlelhhgggnjndaaGreat
open Go.RowKit Go.Shelf
set_option linter.unusedVariables false
set_option linter.unusedSimpArgs false
def gnB (x : Pn) : Bool := x.t.length == 0 && x.p == 0
def kpB (pid : Int) (x : Pn) : Bool := !(gnB x && x.i != pid)
def kuB (k : Pn → Bool) (P : List Pn) (u : Int) : Bool := P.all fun y => !(y.i == u) || k y
theorem ku_iff {k : Pn → Bool} {P : List Pn} {u : Int} : kuB k P u = true ↔ ∀ y ∈ P, y.i = u → k y = true := by
  unfold kuB
  rw [List.all_eq_true]
  refine ⟨fun h y hy e => ?_, fun h y hy => ?_⟩
  · have := h y hy
    rw [e] at this
    simpa using this
  · by_cases e : y.i = u
    · rw [h y hy e]; simp
    · simp [e]
def turn (c q : Int) (y : Pn) : Pn := if y.i = c then rePn y q else y
theorem turn_i (c q : Int) (y : Pn) : (turn c q y).i = y.i := by unfold turn; split <;> rfl
theorem turn_t (c q : Int) (y : Pn) : (turn c q y).t = y.t := by unfold turn; split <;> rfl
theorem set_turn {P : List Pn} (hu : (P.map (·.i)).Pairwise (· < ·)) {k : Nat} (hk : k < P.length) (q : Int) : P.set k (rePn (P.getD k pn0) q) = P.map (turn (P.getD k pn0).i q) := by
  have e0 : P.getD k pn0 = P[k] := by simp [List.getD, hk]
  rw [e0]
  refine List.ext_getElem (by simp) fun j h1 h2 => ?_
  have hj : j < P.length := by simpa using h1
  rw [List.getElem_set, List.getElem_map]
  unfold turn
  by_cases e : k = j
  · subst e; simp
  · rw [if_neg e, if_neg]
    intro e2
    have h3 := row_eq hu (List.getElem_mem hj) (List.getElem_mem hk) e2
    rcases Nat.lt_or_gt_of_ne e with h | h
    · have := List.pairwise_iff_getElem.1 hu k j (by simpa using hk) (by simpa using hj) h
      simp at this; omega
    · have := List.pairwise_iff_getElem.1 hu j k (by simpa using hj) (by simpa using hk) h
      simp at this; omega
theorem ids_turn (P : List Pn) (c q : Int) : (P.map (turn c q)).map (·.i) = P.map (·.i) := by
  rw [List.map_map]
  exact List.map_congr_left fun y _ => turn_i c q y
theorem fnd_row {P : List Pn} (hu : (P.map (·.i)).Pairwise (· < ·)) {x : Pn} (hx : x ∈ P) : ∃ j, j < P.length ∧ fndF 0 (ofN P) x.i = (j : Int) ∧ P.getD j pn0 = x := by
  obtain ⟨j, hj, h1, h2⟩ := fnd_in (L := ofN P) (c := x.i) (by rw [ids_ofN]; exact List.mem_map.2 ⟨x, hx, rfl⟩)
  rw [len_ofN] at hj
  rw [getD_ofN] at h2
  refine ⟨j, hj, h1, ?_⟩
  have h3 : P.getD j pn0 ∈ P := by rw [show P.getD j pn0 = P[j] by simp [List.getD, hj]]; exact List.getElem_mem _
  exact row_eq hu h3 hx h2
structure BInv (n : Nat) (pid : Int) (P : List Pn) : Prop where
  up : (P.map (·.i)).Pairwise (· < ·)
  pos : (0 : Int) ∉ P.map (·.i)
  p0 : pid ≠ 0
  pr : ∃ y ∈ P, y.i = pid ∧ y.t = [] ∧ y.p ≠ pid
  par : ∀ x ∈ P, x.p = 0 ∨ x.p = pid ∨ ∃ y ∈ P, y.i = x.p ∧ y.t ≠ []
  cl : runB (ofN P) 1 = true → clm (ofN P) n 1 = true
theorem BInv.clo {n : Nat} {pid : Int} {P : List Pn} (h : BInv n pid P) : Clo P (kpB pid) := fun x hx _ => by
  rcases h.par x hx with h1 | h1 | ⟨y, hy, h2, h3⟩
  · exact .inl h1
  · obtain ⟨y, hy, h2, h3, h4⟩ := h.pr
    exact .inr ⟨y, hy, by rw [h1, h2], by unfold kpB; simp [h2]⟩
  · refine .inr ⟨y, hy, h2, ?_⟩
    unfold kpB gnB
    have : (y.t.length == 0) = false := by simpa using h3
    rw [this]; rfl
theorem BInv.kt {n : Nat} {pid : Int} {P : List Pn} (h : BInv n pid P) : ∀ x ∈ P, x.t ≠ [] → kpB pid x = true := fun x _ hx => by
  unfold kpB gnB
  have : (x.t.length == 0) = false := by simpa using hx
  rw [this]; rfl
theorem heir_01 (L : List Pw) (n : Nat) (c : Int) : heirF L n c = 0 ∨ (heirF L n c = 1 ∧ runB L 1 = true) := by
  unfold heirF
  split
  · rename_i h
    split
    · exact .inl rfl
    · exact .inr ⟨rfl, h⟩
  · exact .inl rfl
theorem BInv.step {n : Nat} {pid : Int} {P : List Pn} (h : BInv n pid P) {k : Nat} (hk : k < P.length) (hkp : (P.getD k pn0).p = pid) : BInv n pid (P.set k (rePn (P.getD k pn0) (heirF (ofN P) n (P.getD k pn0).i))) := by
  have hcl := clm_step (L := ofN P) (k := k) (n := n) (by rw [len_ofN]; exact hk) (by rw [ids_ofN]; exact h.up) h.cl
  have e : ((ofN P).set k (reP ((ofN P).getD k pw0) (heirF (ofN P) n ((ofN P).getD k pw0).1.i))).map (·.1) = P.set k (rePn (P.getD k pn0) (heirF (ofN P) n (P.getD k pn0).i)) := by
    rw [List.map_set, ofN_nm, ← getD_ofN]; rfl
  have hcl2 : runB (ofN (P.set k (rePn (P.getD k pn0) (heirF (ofN P) n (P.getD k pn0).i)))) 1 = true → clm (ofN (P.set k (rePn (P.getD k pn0) (heirF (ofN P) n (P.getD k pn0).i)))) n 1 = true := by
    have e2 : ((ofN P).set k (reP ((ofN P).getD k pw0) (heirF (ofN P) n ((ofN P).getD k pw0).1.i))).map (·.1) = (ofN (P.set k (rePn (P.getD k pn0) (heirF (ofN P) n (P.getD k pn0).i)))).map (·.1) := by rw [e, ofN_nm]
    rw [← run_nm e2, ← clm_nm (ids_nm e2) (fun j => by rw [getD_namesP e2])]
    exact hcl
  have hst := set_turn h.up hk (heirF (ofN P) n (P.getD k pn0).i)
  have hx : P.getD k pn0 ∈ P := by rw [show P.getD k pn0 = P[k] by simp [List.getD, hk]]; exact List.getElem_mem _
  rw [hst] at hcl2 ⊢
  have h01 := heir_01 (ofN P) n (P.getD k pn0).i
  generalize heirF (ofN P) n (P.getD k pn0).i = q at h01 hcl2 ⊢
  generalize P.getD k pn0 = x at hx hkp hcl2 ⊢
  have hw : ∀ {z : Int}, (∃ y ∈ P, y.i = z ∧ y.t ≠ []) → ∃ y ∈ P.map (turn x.i q), y.i = z ∧ y.t ≠ [] := fun ⟨y, hy, h1, h2⟩ => ⟨turn x.i q y, List.mem_map.2 ⟨y, hy, rfl⟩, by rw [turn_i]; exact h1, by rw [turn_t]; exact h2⟩
  refine ⟨by rw [ids_turn]; exact h.up, by rw [ids_turn]; exact h.pos, h.p0, ?_, fun z hz => ?_, hcl2⟩
  · obtain ⟨y, hy, h1, h2, h3⟩ := h.pr
    refine ⟨turn x.i q y, List.mem_map.2 ⟨y, hy, rfl⟩, by rw [turn_i]; exact h1, by rw [turn_t]; exact h2, ?_⟩
    unfold turn
    rw [if_neg]
    · exact h3
    · intro e9
      have := row_eq h.up hy hx e9
      subst this
      exact h3 hkp
  · obtain ⟨y, hy, rfl⟩ := List.mem_map.1 hz
    unfold turn
    split
    · rcases h01 with h1 | ⟨h1, h2⟩
      · exact .inl h1
      · refine .inr (.inr ?_)
        obtain ⟨z, hz, h3⟩ := (run_iff h.up 1).1 h2
        have h4 := hw ⟨z, hz, h3⟩
        show ∃ y1 ∈ P.map (turn x.i q), y1.i = q ∧ y1.t ≠ []
        rw [h1] at h4 ⊢
        exact h4
    · rcases h.par y hy with h1 | h1 | h1
      · exact .inl h1
      · exact .inr (.inl h1)
      · exact .inr (.inr (hw h1))
theorem ed_step {n : Nat} {pid a : Int} {U : List Int} {P : List Pn} (h : BInv n pid P) (hU : Ids a U) (hin : ∀ x ∈ P, x.i ∈ U) {k : Nat} (hk : k < P.length) (hkp : (P.getD k pn0).p = pid) :
    edStep (a, U.filter (kuB (kpB pid) P), P.filter (kpB pid)) (P.getD k pn0).i = (a, U.filter (kuB (kpB pid) (P.set k (rePn (P.getD k pn0) (heirF (ofN P) n (P.getD k pn0).i)))), (P.set k (rePn (P.getD k pn0) (heirF (ofN P) n (P.getD k pn0).i))).filter (kpB pid)) := by
  have hx : P.getD k pn0 ∈ P := by rw [show P.getD k pn0 = P[k] by simp [List.getD, hk]]; exact List.getElem_mem _
  rw [set_turn h.up hk]
  have hc0 : (P.getD k pn0).i ≠ 0 := fun e => h.pos (List.mem_map.2 ⟨_, hx, e⟩)
  have hone := one_heir h.up h.pos h.clo h.kt h.cl hc0
  have hx2 := hx
  generalize P.getD k pn0 = x at hx hkp hone hc0 ⊢
  have hkx : kpB pid x = true := by
    unfold kpB gnB
    have : (x.p == 0) = false := by rw [hkp]; simpa using h.p0
    rw [this]; simp
  have hxpid : x.i ≠ pid := fun e => by
    obtain ⟨y, hy, h1, h2, h3⟩ := h.pr
    have := row_eq h.up hx hy (by rw [e, h1])
    subst this
    exact h3 hkp
  have hu2 := up_filter h.up (kpB pid)
  obtain ⟨j, hj, h1, h2⟩ := fnd_row hu2 (List.mem_filter.2 ⟨hx, hkx⟩)
  unfold edStep
  simp only
  rw [h1, Int.toNat_natCast, h2, hone]
  have hst := set_turn hu2 hj (heirF (ofN P) n x.i)
  rw [h2] at hst
  rw [hst]
  have h01 := heir_01 (ofN P) n x.i
  have hto : (!oneF (ofN (P.filter (kpB pid))) x.i) = (heirF (ofN P) n x.i == 0) := by
    rw [← hone]
    cases oneF (ofN (P.filter (kpB pid))) x.i <;> rfl
  rw [hto]
  clear hto hst hone h1 h2 hj h01
  generalize heirF (ofN P) n x.i = q
  have hkt : ∀ y ∈ P, y.i ≠ x.i → turn x.i q y = y := fun y _ e => by unfold turn; rw [if_neg e]
  have hktx : turn x.i q x = rePn x q := by unfold turn; rw [if_pos rfl]
  have hgq : kpB pid (rePn x q) = !(x.t.length == 0 && q == 0) := by
    unfold kpB gnB rePn
    simp only
    rw [show (x.i != pid) = true by simpa using hxpid, Bool.and_true]
  cases hg : (q == 0 && x.t.length == 0)
  · rw [if_neg (by simp)]
    have hgq2 : kpB pid (rePn x q) = true := by rw [hgq, Bool.and_comm, hg]; rfl
    congr 2
    · refine List.filter_congr fun u _ => ?_
      rw [Bool.eq_iff_iff, ku_iff, ku_iff]
      constructor
      · intro h4 z hz e
        obtain ⟨y, hy, rfl⟩ := List.mem_map.1 hz
        by_cases e2 : y.i = x.i
        · have := row_eq h.up hy hx e2
          subst this
          rw [hktx]; exact hgq2
        · rw [hkt y hy e2] at e ⊢
          exact h4 y hy e
      · intro h4 y hy e
        by_cases e2 : y.i = x.i
        · have := row_eq h.up hy hx e2
          subst this
          exact hkx
        · have := h4 (turn x.i q y) (List.mem_map.2 ⟨y, hy, rfl⟩) (by rw [turn_i]; exact e)
          rw [hkt y hy e2] at this
          exact this
    · rw [List.filter_map]
      congr 1
      refine List.filter_congr fun y hy => ?_
      show kpB pid y = kpB pid (turn x.i q y)
      by_cases e2 : y.i = x.i
      · have := row_eq h.up hy hx e2
        subst this
        rw [hktx, hgq2, hkx]
      · rw [hkt y hy e2]
  · rw [if_pos rfl]
    have hgq2 : kpB pid (rePn x q) = false := by rw [hgq, Bool.and_comm, hg]; rfl
    have hmem : x.i ∈ U.filter (kuB (kpB pid) P) := List.mem_filter.2 ⟨hin x hx, ku_iff.2 fun y hy e => by
      have := row_eq h.up hy hx e
      subst this
      exact hkx⟩
    have hfr : rfreeV a (U.filter (kuB (kpB pid) P)) x.i = (a, (U.filter (kuB (kpB pid) P)).filter (fun y => y != x.i), 0) := by
      unfold rfreeV
      rw [if_pos (by simpa using hmem)]
    rw [hfr]
    simp only
    congr 2
    · rw [List.filter_filter]
      refine List.filter_congr fun u _ => ?_
      rw [Bool.eq_iff_iff, Bool.and_eq_true, ku_iff, ku_iff]
      constructor
      · rintro ⟨h3, h4⟩ z hz e
        obtain ⟨y, hy, rfl⟩ := List.mem_map.1 hz
        rw [turn_i] at e
        have e2 : y.i ≠ x.i := by rw [e]; simpa using h3
        rw [hkt y hy e2]
        exact h4 y hy e
      · intro h4
        have hne : u ≠ x.i := fun e => by
          have := h4 (turn x.i q x) (List.mem_map.2 ⟨x, hx, rfl⟩) (by rw [turn_i]; exact e.symm)
          rw [hktx, hgq2] at this
          cases this
        refine ⟨by simpa using hne, fun y hy e => ?_⟩
        have := h4 (turn x.i q y) (List.mem_map.2 ⟨y, hy, rfl⟩) (by rw [turn_i]; exact e)
        rw [hkt y hy (by rw [e]; exact hne)] at this
        exact this
    · rw [List.filter_map, List.filter_map, List.filter_filter]
      congr 1
      refine List.filter_congr fun y hy => ?_
      show ((turn x.i q y).i != x.i && kpB pid y) = kpB pid (turn x.i q y)
      rw [turn_i]
      by_cases e2 : y.i = x.i
      · have := row_eq h.up hy hx e2
        subst this
        rw [hktx, hgq2]; simp
      · rw [hkt y hy e2, show (y.i != x.i) = true by simpa using e2, Bool.true_and]
theorem ed_all {n : Nat} {pid a : Int} {U : List Int} : ∀ (d k : Nat) (P : List Pn), BInv n pid P → Ids a U → (∀ x ∈ P, x.i ∈ U) → d + k = P.length →
    edF (a, U.filter (kuB (kpB pid) P), P.filter (kpB pid)) (((P.drop k).filter (fun x => x.p == pid)).map (·.i)) = (a, U.filter (kuB (kpB pid) (bqF n pid d k P)), (bqF n pid d k P).filter (kpB pid)) ∧ BInv n pid (bqF n pid d k P) ∧ (bqF n pid d k P).map (·.i) = P.map (·.i)
  | 0, k, P, h, _, _, hd => by
    rw [List.drop_of_length_le (by omega)]
    exact ⟨rfl, h, rfl⟩
  | d + 1, k, P, h, hU, hin, hd => by
    have hk : k < P.length := by omega
    have e0 : P[k] = P.getD k pn0 := by simp [List.getD, hk]
    rw [List.drop_eq_getElem_cons hk, e0, List.filter_cons]
    rw [bqF]
    unfold bqStep
    by_cases hp : ((P.getD k pn0).p == pid) = true
    · have hp2 : (P.getD k pn0).p = pid := by simpa using hp
      rw [if_pos hp, if_pos hp, List.map_cons, edF, ed_step h hU hin hk hp2]
      have hl : (P.set k (rePn (P.getD k pn0) (heirF (ofN P) n (P.getD k pn0).i))).length = P.length := by rw [List.length_set]
      have hids : (P.set k (rePn (P.getD k pn0) (heirF (ofN P) n (P.getD k pn0).i))).map (·.i) = P.map (·.i) := by rw [set_turn h.up hk, ids_turn]
      have hdr : (P.set k (rePn (P.getD k pn0) (heirF (ofN P) n (P.getD k pn0).i))).drop (k + 1) = P.drop (k + 1) := by rw [List.drop_set_of_lt (by omega)]
      have ih := ed_all (n := n) (pid := pid) (a := a) (U := U) d (k + 1) _ (h.step hk hp2) hU (fun x hx => by
        have h1 : x.i ∈ P.map (·.i) := by rw [← hids]; exact List.mem_map.2 ⟨x, hx, rfl⟩
        obtain ⟨y, hy, e⟩ := List.mem_map.1 h1
        rw [← e]; exact hin y hy) (by rw [hl]; omega)
      rw [hdr, hids] at ih
      exact ih
    · rw [if_neg hp, if_neg hp]
      exact ed_all d (k + 1) P h hU hin (by omega)
theorem bqG_all {a : Int} {P : List Pn} (hu : (P.map (·.i)).Pairwise (· < ·)) : ∀ (k : Nat) (U : List Int) (Q : List Pn), Ids a U → k ≤ P.length → (∀ x ∈ P.take k, x.i ∈ U) → Q = P.take k ++ (P.drop k).filter (fun x => !gnB x) → bqG k (a, U, Q) = (a, U.filter (kuB (fun x => !gnB x) (P.take k)), P.filter (fun x => !gnB x))
  | 0, U, Q, hU, _, _, hQ => by
    rw [bqG, hQ]
    have e : U.filter (kuB (fun x => !gnB x) (P.take 0)) = U := List.filter_eq_self.2 fun u _ => by simp [kuB]
    rw [e]
    simp
  | k + 1, U, Q, hU, hk, hin, hQ => by
    have hk' : k < P.length := by omega
    have hkq : Q.getD k pn0 = P[k] := by
      rw [hQ, List.getD, List.getElem?_append_left (by rw [List.length_take]; omega), List.getElem?_take_of_lt (by omega), List.getElem?_eq_getElem hk']
      rfl
    have htk : P.take (k + 1) = P.take k ++ [P[k]] := List.take_succ_eq_append_getElem hk'
    have hmx : P[k] ∈ P.take (k + 1) := by rw [htk]; exact List.mem_append_right _ (List.mem_singleton.2 rfl)
    have hxU := hin _ hmx
    have hne : ∀ y ∈ P.take k, y.i ≠ P[k].i := fun y hy => by
      obtain ⟨j, hj, e⟩ := List.getElem_of_mem hy
      rw [List.length_take] at hj
      rw [List.getElem_take] at e
      have := List.pairwise_iff_getElem.1 hu j k (by simp; omega) (by simpa using hk') (by omega)
      simp at this
      rw [← e]; omega
    rw [bqG]
    simp only
    rw [hkq]
    by_cases hg : gnB P[k] = true
    · have hg2 : (P[k].t.length == 0 && P[k].p == 0) = true := hg
      rw [if_pos hg2, free_yes hU hxU]
      simp only
      have hQ2 : delL k Q = P.take k ++ (P.drop k).filter (fun x => !gnB x) := by
        unfold delL
        rw [hQ, htk, List.append_assoc, List.take_append_of_le_length (by rw [List.length_take]; omega), List.take_of_length_le (by rw [List.length_take]; omega)]
        congr 1
        rw [List.drop_append, List.drop_eq_nil_of_le (by rw [List.length_take]; omega), List.nil_append, List.length_take, show k + 1 - min k P.length = 1 by omega, List.singleton_append, List.drop_succ_cons, List.drop_zero]
        conv => rhs; rw [List.drop_eq_getElem_cons hk', List.filter_cons_of_neg (by rw [hg]; simp)]
      rw [bqG_all hu k _ _ (hU.freed hxU) (by omega) (fun y hy => (mem_delP hU.up hxU).2 ⟨hin y (by rw [htk]; exact List.mem_append_left _ hy), hne y hy⟩) hQ2]
      congr 2
      rw [delP_eq hU.up hxU, List.filter_filter]
      refine List.filter_congr fun u _ => ?_
      rw [Bool.eq_iff_iff, Bool.and_eq_true, ku_iff, ku_iff]
      constructor
      · rintro ⟨h1, h2⟩ y hy e
        rw [htk] at hy
        rcases List.mem_append.1 hy with hy | hy
        · exact h1 y hy e
        · rw [List.mem_singleton.1 hy] at e
          rw [e] at h2
          simp at h2
      · intro h1
        refine ⟨fun y hy e => h1 y (by rw [htk]; exact List.mem_append_left _ hy) e, ?_⟩
        have : u ≠ P[k].i := fun e => by
          have := h1 _ hmx e.symm
          rw [hg] at this
          cases this
        simpa using this
    · have hg2 : ¬ ((P[k].t.length == 0 && P[k].p == 0) = true) := hg
      have hgf : gnB P[k] = false := by simpa using hg
      rw [if_neg hg2]
      have hQ2 : Q = P.take k ++ (P.drop k).filter (fun x => !gnB x) := by
        rw [hQ, htk, List.append_assoc]
        congr 1
        conv => rhs; rw [List.drop_eq_getElem_cons hk', List.filter_cons_of_pos (by rw [hgf]; rfl)]
        rfl
      rw [bqG_all hu k U Q hU (by omega) (fun y hy => hin y (by rw [htk]; exact List.mem_append_left _ hy)) hQ2]
      congr 2
      refine List.filter_congr fun u _ => ?_
      rw [Bool.eq_iff_iff, ku_iff, ku_iff]
      constructor
      · intro h1 y hy e
        rw [htk] at hy
        rcases List.mem_append.1 hy with hy | hy
        · exact h1 y hy e
        · rw [List.mem_singleton.1 hy, hgf]; rfl
      · exact fun h1 y hy e => h1 y (by rw [htk]; exact List.mem_append_left _ hy) e
theorem ids_bq {n : Nat} {pid : Int} : ∀ (d k : Nat) (P : List Pn), (bqF n pid d k P).length = P.length
  | 0, k, P => rfl
  | d + 1, k, P => by
    rw [bqF, ids_bq d]
    unfold bqStep
    split
    · rw [List.length_set]
    · rfl
theorem beq_eq {n : Nat} {pid a : Int} {U : List Int} {P : List Pn} (h : BInv n pid P) (hU : Ids a U) (hin : ∀ x ∈ P, x.i ∈ U) (h0 : ∀ x ∈ P, kpB pid x = true) :
    edEnd (edF (a, U, P) (kidF (ofN P) pid)) pid = bqG P.length (a, U, bqF n pid P.length 0 P) := by
  have e1 : P.filter (kpB pid) = P := List.filter_eq_self.2 h0
  have e2 : U.filter (kuB (kpB pid) P) = U := List.filter_eq_self.2 fun u _ => ku_iff.2 fun y hy _ => h0 y hy
  have e3 : kidF (ofN P) pid = ((P.drop 0).filter (fun x => x.p == pid)).map (·.i) := by
    rw [kid_names, ofN_nm, List.drop_zero]
    unfold kidN
    congr 1
    refine List.filter_congr fun x _ => ?_
    rw [show (pid != 0) = true by simpa using h.p0, Bool.and_true]
  obtain ⟨h1, h2, h3⟩ := ed_all (n := n) (pid := pid) (a := a) (U := U) P.length 0 P h hU hin (by omega)
  rw [e1, e2, ← e3] at h1
  rw [h1]
  have hin2 : ∀ x ∈ bqF n pid P.length 0 P, x.i ∈ U := fun x hx => by
    have h4 : x.i ∈ P.map (·.i) := by rw [← h3]; exact List.mem_map.2 ⟨x, hx, rfl⟩
    obtain ⟨y, hy, e⟩ := List.mem_map.1 h4
    rw [← e]; exact hin y hy
  have hl : (bqF n pid P.length 0 P).length = P.length := ids_bq _ _ _
  generalize bqF n pid P.length 0 P = Q at h2 hin2 hl ⊢
  have h5 := bqG_all h2.up Q.length U Q hU (Nat.le_refl _) (fun x hx => hin2 x (by rw [List.take_length] at hx; exact hx)) (by simp)
  rw [hl, ← hl, List.take_length] at h5
  rw [← hl, h5]
  obtain ⟨y, hy, h6, h7, h8⟩ := h2.pr
  have hky : kpB pid y = true := by unfold kpB; simp [h6]
  have hu2 := up_filter h2.up (kpB pid)
  obtain ⟨j, hj, h9, h10⟩ := fnd_row hu2 (List.mem_filter.2 ⟨hy, hky⟩)
  rw [h6] at h9
  unfold edEnd
  simp only
  rw [h9, Int.toNat_natCast, h10]
  have hkn : ∀ x ∈ Q, x ≠ y → kpB pid x = !gnB x := fun x hx hne => by
    have : x.i ≠ pid := fun e => hne (row_eq h2.up hx hy (by rw [e, h6]))
    unfold kpB
    rw [show (x.i != pid) = true by simpa using this, Bool.and_true]
  by_cases hp0 : y.p = 0
  · rw [if_pos (by simpa using hp0)]
    have hgy : gnB y = true := by unfold gnB; rw [h7, hp0]; rfl
    have hmem : pid ∈ U.filter (kuB (kpB pid) Q) := List.mem_filter.2 ⟨by rw [← h6]; exact hin2 y hy, ku_iff.2 fun z hz e => by
      have := row_eq h2.up hz hy (by rw [e, h6])
      subst this
      exact hky⟩
    have hfr : rfreeV a (U.filter (kuB (kpB pid) Q)) pid = (a, (U.filter (kuB (kpB pid) Q)).filter (fun y => y != pid), 0) := by
      unfold rfreeV
      rw [if_pos (by simpa using hmem)]
    rw [hfr]
    simp only
    congr 2
    · rw [List.filter_filter]
      refine List.filter_congr fun u _ => ?_
      rw [Bool.eq_iff_iff, Bool.and_eq_true, ku_iff, ku_iff]
      constructor
      · rintro ⟨h11, h12⟩ z hz e
        have hne : z ≠ y := fun e9 => by
          rw [← e, e9, h6] at h11
          simp at h11
        rw [← hkn z hz hne]
        exact h12 z hz e
      · intro h11
        have hne : u ≠ pid := fun e => by
          have := h11 y hy (by rw [h6, e])
          rw [hgy] at this
          cases this
        refine ⟨by simpa using hne, fun z hz e => ?_⟩
        rw [hkn z hz (fun e9 => hne (by rw [← e, e9, h6]))]
        exact h11 z hz e
    · rw [List.filter_filter]
      refine List.filter_congr fun z hz => ?_
      by_cases e : z = y
      · subst e
        rw [h6, hgy]; simp
      · have : z.i ≠ pid := fun e9 => e (row_eq h2.up hz hy (by rw [e9, h6]))
        rw [hkn z hz e, show (z.i != pid) = true by simpa using this, Bool.true_and]
  · rw [if_neg (by simpa using hp0)]
    have hgy : gnB y = false := by unfold gnB; rw [show (y.p == 0) = false by simpa using hp0, Bool.and_false]
    have hall : ∀ x ∈ Q, kpB pid x = !gnB x := fun x hx => by
      by_cases e : x = y
      · subst e; rw [hgy, hky]; rfl
      · exact hkn x hx e
    congr 2
    · refine List.filter_congr fun u _ => ?_
      rw [Bool.eq_iff_iff, ku_iff, ku_iff]
      exact ⟨fun h11 z hz e => by rw [← hall z hz]; exact h11 z hz e, fun h11 z hz e => by rw [hall z hz]; exact h11 z hz e⟩
    · exact List.filter_congr fun z hz => hall z hz
end Go.Proofs.YtlelhhgggnjndaaGreat
namespace Go.Proofs.YtlelhhgggnjndaaGreat
open Go.RowKit Go.Shelf
set_option linter.unusedVariables false
set_option linter.unusedSimpArgs false
theorem cm_clm {L : List Pw} : ∀ (n : Nat) (q : Int), cmF L n q = true → clm L n q = true
  | 0, q, h => by cases h
  | n + 1, q, h => by
    unfold cmF at h
    unfold clm
    by_cases h0 : q = 0
    · simp [h0]
    · rw [if_neg h0] at h
      split at h
      · rename_i h1
        unfold runB at h1
        rw [Bool.and_eq_true] at h1
        rw [h1.1, show clm L n (parP L q) = true from cm_clm n _ h]
        simp
      · cases h
theorem clm_self {L : List Pw} {q : Int} (h : parP L q = q) (h0 : q ≠ 0) : ∀ n, clm L n q = false
  | 0 => by simpa [clm] using h0
  | n + 1 => by
    unfold clm
    rw [h, clm_self h h0 n]
    simpa using h0
theorem good_root {a : Int} {U : List Int} {L : List Pw} (g : TkGood a U L) : ∀ x ∈ L, ¬ (x.1.t = [] ∧ x.1.p = 0) ∧ cmF L L.length x.1.p = true := fun x hx => by
  have h := List.any_eq_false.1 g.root x hx
  unfold rootB at h
  simp at h
  exact ⟨fun e => h.1 e.1 e.2, h.2⟩
theorem good_par {a : Int} {U : List Int} {L : List Pw} (g : TkGood a U L) : ∀ x ∈ L, x.1.p = 0 ∨ runB L x.1.p = true := fun x hx => by
  have h := (good_root g x hx).2
  cases hl : L.length with
  | zero => rw [hl] at h; cases h
  | succ n =>
    rw [hl] at h
    unfold cmF at h
    split at h
    · rename_i h1; exact .inl h1
    · split at h
      · rename_i h1; exact .inr h1
      · cases h
theorem good_clm {a : Int} {U : List Int} {L : List Pw} (g : TkGood a U L) : runB (ofN (L.map (·.1))) 1 = true → clm (ofN (L.map (·.1))) (L.length + 1) 1 = true := fun hr => by
  have hu : ((L.map (·.1)).map (·.i)).Pairwise (· < ·) := by rw [← idsP_names]; exact g.pup
  obtain ⟨x, hx, h1, h2⟩ := (run_iff hu 1).1 hr
  obtain ⟨y, hy, rfl⟩ := List.mem_map.1 hx
  have h3 := cm_clm _ _ (good_root g y hy).2
  have e : (ofN (L.map (·.1))).map (·.1) = L.map (·.1) := ofN_nm _
  rw [clm_nm (L := ofN (L.map (·.1))) (M := L) (ids_nm e) (fun j => by rw [getD_namesP e])]
  unfold clm
  have h4 : parP L 1 = y.1.p := by rw [← par_nm e, ← h1]; exact par_of hu hx
  have h5 : (idsP L).contains 1 = true := by
    have h6 : (1 : Int) ∈ idsP L := List.mem_map.2 ⟨y, hy, h1⟩
    simpa using h6
  rw [h4, h3, h5]
  simp
theorem good_self {a : Int} {U : List Int} {L : List Pw} (g : TkGood a U L) : ∀ x ∈ L, x.1.p ≠ x.1.i := fun x hx e => by
  have hu : ((L.map (·.1)).map (·.i)).Pairwise (· < ·) := by rw [← idsP_names]; exact g.pup
  have h1 := cm_clm _ _ (good_root g x hx).2
  have e2 : (ofN (L.map (·.1))).map (·.1) = L.map (·.1) := ofN_nm _
  have h2 : parP L x.1.i = x.1.p := by rw [← par_nm e2]; exact par_of hu (List.mem_map.2 ⟨x, hx, rfl⟩)
  rw [e, clm_self (by rw [h2, e]) (good_pos g x hx)] at h1
  cases h1
theorem good_mem {a : Int} {U : List Int} {L : List Pw} (g : TkGood a U L) {z : Int} : z ∈ U ↔ z ∈ idsP L ∨ ∃ x ∈ L, z ∈ x.1.t := by
  have h1 : z ∈ U ↔ z ∈ allD L := by
    conv => lhs; rw [g.used]
    unfold idsF
    rw [sortZ_mem]
    rfl
  rw [h1, mem_allD, mem_flatT]
  unfold tidF
  constructor
  · rintro (h | h)
    · exact .inl h
    · obtain ⟨⟨k, t⟩, h2, rfl⟩ := List.mem_map.1 h
      obtain ⟨j, x, _, h3, h4⟩ := thrF_mem.1 h2
      exact .inr ⟨x, List.mem_of_getElem? h3, h4⟩
  · rintro (h | ⟨x, hx, h⟩)
    · exact .inl h
    · obtain ⟨j, hj, e⟩ := List.getElem_of_mem hx
      exact .inr (List.mem_map.2 ⟨(j, z), thrF_mem.2 ⟨j, x, by omega, by simp [hj, e], h⟩, rfl⟩)
theorem good_cnt {a : Int} {U : List Int} {L : List Pw} (g : TkGood a U L) : ∀ x ∈ L, x.1.t.length ≤ 8 := fun x hx => by
  have := cnt_le (P := L.map (·.1)) (x := x.1) (List.mem_map.2 ⟨x, hx, rfl⟩)
  have := g.n8
  omega
theorem frees_keep {e : Int → Bool} {pid z : Int} : ∀ {ts : List Int} {s : Int × List Int}, Ids s.1 s.2 → z ∈ s.2 → ts.Nodup → (∀ t ∈ ts, t ≠ pid → t ∈ s.2 ∧ t ≠ z) → z ∈ (frees e pid ts s).2
  | [], s, _, h, _, _ => h
  | t :: ts, s, hI, h, hn, ht => by
    rw [List.nodup_cons] at hn
    show z ∈ (frees e pid ts (if (e t && t != pid) = true then ((freeV s.1 s.2 t).1, (freeV s.1 s.2 t).2.1) else s)).2
    split
    · rename_i h1
      rw [Bool.and_eq_true] at h1
      obtain ⟨h2, h3⟩ := ht t (List.mem_cons_self ..) (by simpa using h1.2)
      rw [free_yes hI h2]
      refine frees_keep (hI.freed h2) ((mem_delP hI.up h2).2 ⟨h, fun e => h3 e.symm⟩) hn.2 (fun u hu hup => ?_)
      obtain ⟨h4, h5⟩ := ht u (List.mem_cons_of_mem _ hu) hup
      exact ⟨(mem_delP hI.up h2).2 ⟨h4, fun (e : u = t) => hn.1 (by rw [← e]; exact hu)⟩, h5⟩
    · exact frees_keep hI h hn.2 (fun u hu hup => ht u (List.mem_cons_of_mem _ hu) hup)
theorem set_fn {P : List Pn} (hu : (P.map (·.i)).Pairwise (· < ·)) {k : Nat} (hk : k < P.length) (f : Pn → Pn) : P.set k (f (P.getD k pn0)) = P.map (fun y => if y.i = (P.getD k pn0).i then f y else y) := by
  have e0 : P.getD k pn0 = P[k] := by simp [List.getD, hk]
  rw [e0]
  refine List.ext_getElem (by simp) fun j h1 h2 => ?_
  have hj : j < P.length := by simpa using h1
  rw [List.getElem_set, List.getElem_map]
  by_cases e : k = j
  · subst e; simp
  · rw [if_neg e, if_neg]
    intro e2
    have h3 := row_eq hu (List.getElem_mem hj) (List.getElem_mem hk) e2
    rcases Nat.lt_or_gt_of_ne e with h | h
    · have := List.pairwise_iff_getElem.1 hu k j (by simpa using hk) (by simpa using hj) h
      simp at this; omega
    · have := List.pairwise_iff_getElem.1 hu j k (by simpa using hj) (by simpa using hk) h
      simp at this; omega
theorem noThr_map {P : List Pn} (hu : (P.map (·.i)).Pairwise (· < ·)) {k : Nat} (hk : k < P.length) : noThr P k = P.map (fun y => if y.i = (P.getD k pn0).i then ⟨y.i, y.p, []⟩ else y) := set_fn hu hk (fun y => ⟨y.i, y.p, []⟩)
theorem binv_of {a : Int} {U : List Int} {L : List Pw} (g : TkGood a U L) {j : Nat} (hj : j < L.length) : BInv (L.length + 1) (L.getD j pw0).1.i (noThr (L.map (·.1)) j) ∧ (∀ x ∈ noThr (L.map (·.1)) j, kpB (L.getD j pw0).1.i x = true) := by
  have hu : ((L.map (·.1)).map (·.i)).Pairwise (· < ·) := by rw [← idsP_names]; exact g.pup
  have hjP : j < (L.map (·.1)).length := by simpa using hj
  have hx : L.getD j pw0 ∈ L := by rw [show L.getD j pw0 = L[j] by simp [List.getD, hj]]; exact List.getElem_mem _
  have hi0 := good_pos g _ hx
  have hself := good_self g _ hx
  have hcl := good_clm g
  have hnt := noThr_map hu hjP
  rw [getD_name] at hnt
  have hids : (noThr (L.map (·.1)) j).map (·.i) = (L.map (·.1)).map (·.i) := by
    rw [hnt, List.map_map]
    exact List.map_congr_left fun y _ => by
      show (if y.i = _ then (⟨y.i, y.p, []⟩ : Pn) else y).i = y.i
      split <;> rfl
  have hclN : runB (ofN (noThr (L.map (·.1)) j)) 1 = true → clm (ofN (noThr (L.map (·.1)) j)) (L.length + 1) 1 = true := fun hr => by
    have hr2 : runB (ofN (L.map (·.1))) 1 = true := by
      obtain ⟨z, hz, h1, h2⟩ := (run_iff (by rw [hids]; exact hu) 1).1 hr
      rw [hnt] at hz
      obtain ⟨y, hy, rfl⟩ := List.mem_map.1 hz
      refine (run_iff hu 1).2 ⟨y, hy, ?_, ?_⟩
      · split at h1 <;> exact h1
      · split at h2
        · exact absurd rfl h2
        · exact h2
    have h1 := hcl hr2
    rw [← clm_nm (L := ofN (L.map (·.1)))]
    · exact h1
    · rw [ids_ofN, ids_ofN, hids]
    · intro i
      rw [getD_ofN, getD_ofN]
      unfold noThr
      simp only [List.getD, List.getElem?_set]
      by_cases e : j = i
      · subst e
        rw [if_pos rfl, if_pos hjP, List.getElem?_eq_getElem hjP]
        rfl
      · rw [if_neg e]
  have hxP : (L.getD j pw0).1 ∈ L.map (·.1) := List.mem_map.2 ⟨_, hx, rfl⟩
  refine ⟨⟨by rw [hids]; exact hu, ?_, hi0, ?_, fun z hz => ?_, hclN⟩, fun z hz => ?_⟩
  · rw [hids]
    intro hm
    obtain ⟨y, hy, e⟩ := List.mem_map.1 hm
    obtain ⟨v, hv, rfl⟩ := List.mem_map.1 hy
    exact good_pos g v hv e
  · rw [hnt]
    exact ⟨_, List.mem_map.2 ⟨_, hxP, rfl⟩, by rw [if_pos rfl], by rw [if_pos rfl], by rw [if_pos rfl]; exact hself⟩
  · rw [hnt] at hz ⊢
    obtain ⟨y, hy, rfl⟩ := List.mem_map.1 hz
    obtain ⟨v, hv, rfl⟩ := List.mem_map.1 hy
    have hp : (if v.1.i = (L.getD j pw0).1.i then (⟨v.1.i, v.1.p, []⟩ : Pn) else v.1).p = v.1.p := by split <;> rfl
    rw [hp]
    rcases good_par g v hv with h1 | h1
    · exact .inl h1
    · have h2 : runB (ofN (L.map (·.1))) v.1.p = true := by rw [run_nm (ofN_nm (L.map (·.1)))]; exact h1
      obtain ⟨y, hy, h3, h4⟩ := (run_iff hu _).1 h2
      by_cases e : y.i = (L.getD j pw0).1.i
      · exact .inr (.inl (by rw [← h3, e]))
      · exact .inr (.inr ⟨y, List.mem_map.2 ⟨y, hy, by rw [if_neg e]⟩, h3, h4⟩)
  · rw [hnt] at hz
    obtain ⟨y, hy, rfl⟩ := List.mem_map.1 hz
    obtain ⟨v, hv, rfl⟩ := List.mem_map.1 hy
    have h1 := (good_root g v hv).1
    unfold kpB gnB
    by_cases e : v.1.i = (L.getD j pw0).1.i
    · rw [if_pos e]
      simp [e]
    · rw [if_neg e]
      cases h2 : (v.1.t.length == 0 && v.1.p == 0)
      · rfl
      · rw [Bool.and_eq_true] at h2
        exact absurd ⟨List.eq_nil_of_length_eq_zero (by simpa using h2.1), by simpa using h2.2⟩ h1
theorem thr_keep {a : Int} {U : List Int} {L : List Pw} (g : TkGood a U L) {j : Nat} (hj : j < L.length) (e : Int → Bool) : ∀ y ∈ noThr (L.map (·.1)) j, y.i ∈ (frees e (L.getD j pw0).1.i (L.getD j pw0).1.t (a, U)).2 := fun y hy => by
  have hu : ((L.map (·.1)).map (·.i)).Pairwise (· < ·) := by rw [← idsP_names]; exact g.pup
  have hjP : j < (L.map (·.1)).length := by simpa using hj
  have hx : L.getD j pw0 ∈ L := by rw [show L.getD j pw0 = L[j] by simp [List.getD, hj]]; exact List.getElem_mem _
  rw [noThr_map hu hjP, getD_name] at hy
  obtain ⟨y0, hy0, e0⟩ := List.mem_map.1 hy
  obtain ⟨v, hv, e1⟩ := List.mem_map.1 hy0
  subst e1
  subst e0
  have hi : (if v.1.i = (L.getD j pw0).1.i then (⟨v.1.i, v.1.p, []⟩ : Pn) else v.1).i = v.1.i := by split <;> rfl
  rw [hi]
  refine frees_keep g.ids ((good_mem g).2 (.inl (List.mem_map.2 ⟨v, hv, rfl⟩))) ((g.tup _ hx).imp fun h => by omega) fun t ht htp => ⟨(good_mem g).2 (.inr ⟨_, hx, ht⟩), fun e9 => ?_⟩
  obtain ⟨k, hk, e1⟩ := List.getElem_of_mem hv
  by_cases ek : k = j
  · subst ek
    apply htp
    rw [e9, ← e1, show L.getD k pw0 = L[k] by simp [List.getD, hk]]
  · exact (good_sh g j (L.getD j pw0) k v (getD_at hj) (by simp [hk, e1]) ek t ht).1 e9.symm
theorem edi_of {a : Int} {U : List Int} {L : List Pw} (g : TkGood a U L) {j : Nat} (hj : j < L.length) {t' : List Int} (ht : t'.length ≤ (L.getD j pw0).1.t.length) (um m : Nat) (M : List Pw) (hM : M.map (·.1) = (L.map (·.1)).set j ⟨(L.getD j pw0).1.i, (L.getD j pw0).1.p, t'⟩) (h1 : um ≤ 100000) (h2 : m ≤ 100000) (h3 : m = M.length) : EdI um m M (kidF M (L.getD j pw0).1.i) (L.getD j pw0).1.i := by
  have hu : ((L.map (·.1)).map (·.i)).Pairwise (· < ·) := by rw [← idsP_names]; exact g.pup
  have hjP : j < (L.map (·.1)).length := by simpa using hj
  have hx : L.getD j pw0 ∈ L := by rw [show L.getD j pw0 = L[j] by simp [List.getD, hj]]; exact List.getElem_mem _
  have hst := set_fn hu hjP (fun y => (⟨y.i, y.p, t'⟩ : Pn))
  simp only [getD_name] at hst
  rw [hst] at hM
  have hids : idsP M = idsP L := by
    rw [idsP_names, idsP_names, hM, List.map_map]
    exact List.map_congr_left fun y _ => by
      show (if y.i = _ then (⟨y.i, y.p, t'⟩ : Pn) else y).i = y.i
      split <;> rfl
  have hup : (idsP M).Pairwise (· < ·) := by rw [hids]; exact g.pup
  have hrow : ∀ x ∈ M, ∃ v ∈ L, x.1 = if v.1.i = (L.getD j pw0).1.i then (⟨v.1.i, v.1.p, t'⟩ : Pn) else v.1 := fun x hx => by
    have h4 : x.1 ∈ M.map (·.1) := List.mem_map.2 ⟨x, hx, rfl⟩
    rw [hM] at h4
    obtain ⟨y, hy, e⟩ := List.mem_map.1 h4
    obtain ⟨v, hv, rfl⟩ := List.mem_map.1 hy
    exact ⟨v, hv, e.symm⟩
  refine ⟨h1, h2, h3, fun x hx9 => ?_, fun c hc => ?_, ?_, ?_, fun hc => ?_⟩
  · obtain ⟨v, hv, e⟩ := hrow x hx9
    rw [e]
    split
    · have := good_cnt g _ hx
      show t'.length ≤ _
      omega
    · have := good_cnt g v hv
      omega
  · unfold kidF at hc
    obtain ⟨x, hx9, rfl⟩ := List.mem_map.1 hc
    exact List.mem_map.2 ⟨x, (List.mem_filter.1 hx9).1, rfl⟩
  · rw [← kid_eq hup]
    exact (sortZ_nd.2 (by
      unfold kidF List.Nodup
      rw [List.pairwise_map]
      unfold idsP at hup
      rw [List.pairwise_map] at hup
      exact (hup.filter _).imp fun h => by omega)).imp fun h => by omega
  · rw [hids]
    exact List.mem_map.2 ⟨_, hx, rfl⟩
  · unfold kidF at hc
    obtain ⟨x, hx9, e1⟩ := List.mem_map.1 hc
    obtain ⟨h4, h5⟩ := List.mem_filter.1 hx9
    obtain ⟨v, hv, e⟩ := hrow x h4
    unfold kidP at h5
    rw [Bool.and_eq_true] at h5
    have h6 : x.1.p = (L.getD j pw0).1.i := by simpa using h5.1
    have h7 : x.1.p = v.1.p := by rw [e]; split <;> rfl
    have h8 : x.1.i = v.1.i := by rw [e]; split <;> rfl
    have := good_self g v hv
    rw [← h7, ← h8, h6, e1] at this
    exact this rfl
end Go.Proofs.YtlelhhgggnjndaaGreat
namespace Go.Proofs.YtlelhhgggnjndaaGreat
open Go.RowKit Go.Shelf
set_option linter.unusedVariables false
set_option linter.unusedSimpArgs false
def opC (k i : Int) (f : Bool) : Array Value := #[.int .i64 k, .int .i64 i, .bool f]
def opQ (i : Int) (n : Nat) : Nat := (IntKind.u64.wrap i % (n : Int)).toNat
def opL (k : Int) (L : List Pw) : List Int := if IntKind.u64.wrap k % 8 = 6 then idsP L else withs [] (tidF L)
def opId (k i : Int) (f : Bool) (L : List Pw) : Int := if f = true ∧ 0 < (opL k L).length then (opL k L).getD (opQ i (opL k L).length) 0 else i
theorem wrap_pos (k : Int) : 0 ≤ IntKind.u64.wrap k := by rw [IntKind.wrap_u64]; omega
theorem opQ_lt {i : Int} {n : Nat} (hn : 0 < n) : opQ i n < n ∧ IntKind.u64.wrap i % (n : Int) = (opQ i n : Int) ∧ (IntKind.u64.wrap i).tmod (n : Int) = (opQ i n : Int) := by
  have h0 := wrap_pos i
  have a := Int.emod_nonneg (IntKind.u64.wrap i) (show (n : Int) ≠ 0 by omega)
  have b := Int.emod_lt_of_pos (IntKind.u64.wrap i) (show (0 : Int) < n by omega)
  rw [Int.tmod_eq_emod_of_nonneg h0]
  unfold opQ
  generalize IntKind.u64.wrap i % (n : Int) = z at a b ⊢
  omega
theorem wrap_nat {n : Nat} (hn : n ≤ 1000000) : IntKind.u64.wrap (n : Int) = n := by rw [IntKind.wrap_u64]; omega
theorem withG_le (n : Int) : ∀ (d : Bool) (l : List Int), (withG n d l).length ≤ l.length + (if d then 0 else 1)
  | d, [] => by cases d <;> simp [withG]
  | d, x :: l => by
    have := withG_le n (d || decide (n ≤ x)) l
    unfold withG
    simp only [List.length_append]
    cases d <;> cases h : decide (n ≤ x) <;> cases h2 : (x != n) <;> simp [h, h2] at this ⊢ <;> omega
theorem withs_le : ∀ (o l : List Int), (withs o l).length ≤ o.length + l.length
  | o, [] => by simp [withs]
  | o, x :: l => by
    rw [withs]
    have h1 := withs_le (withG x false o) l
    have h2 := withG_le x false o
    simp at h1 h2 ⊢
    omega
set_option maxRecDepth 100000 in
set_option maxHeartbeats 8000000 in
theorem opid_tk (k i : Int) (f : Bool) (a : Int) (Ua : Option Addr) (um uc : Nat) (U : List Int) (A : Option Addr) (m c : Nat) (L : List Pw) (w : World) (h : Tk w w.heap.size Ua um uc U A m c L) (hN : (tidF L).length ≤ 1000) (hm1 : m ≤ 1000) :
    Calls Tryz.prog 7 #[.agg (opC k i f), tkV a Ua um uc A m c] w fun e w' => e = .returned (.int .i64 (opId k i f L)) ∧ Below w.heap.size w w' := by
  have k1 := (Blk.new w (opC k i f) 32).alloc (.cells (tkC a Ua um uc A m c) 27)
  have k2 := Blk.new_ (w.alloc (.cells (opC k i f) 32)) (tkC a Ua um uc A m c) 27 (n := w.heap.size + 1) (by simp)
  have B0 := ((Below.refl w.heap.size w).alloc (Nat.le_refl _) (.cells (opC k i f) 32)).alloc (by simp) (.cells (tkC a Ua um uc A m c) 27)
  have t0 := h.on B0
  have LV := Lib.hid (rlive_tk a Ua um uc A m c L _ t0.p h.pl (by have := h.p6; omega) hN)
  have HX := Lib.hid h
  have HPL := Lib.hid h.pl
  obtain ⟨r, hr⟩ : ∃ r, opId k i f L = r := ⟨_, rfl⟩
  rw [hr]
  have HR := Lib.hid hr
  have HN6 := Lib.hid (show (withs [] (tidF L)).length ≤ 1000000 from Nat.le_trans (withs_le _ _) (by simp; omega))
  have h0 := wrap_pos k
  have hi0 := wrap_pos i
  clear h t0 hN hr
  unfold tkV at *
  unfold opC at k1 B0 ⊢
  go_enter Tryz.func7, Tryz.ntmps7
  by_cases h6 : IntKind.u64.wrap k % 8 = 6
  · have HL := Lib.hid (show opL k L = idsP L by unfold opL; rw [if_pos h6])
    go_wp2_with (first
      | (refine wpList_load_row rfl 27 (.tmp 3) rfl (w.heap.size + 1) rfl 27 (tkC a Ua um uc A m c) (0, 0) _ k2.blk Tryz.underlying27 rfl (tk_inf _ _ _ _ _ _ _) ?_)
      | (refine LV.out.mono ?_
         clear LV
         rintro e w1 ⟨G, gm, gc, rfl, z1, bb⟩
         have k11 := k1.below bb k1.lt
         have k21 := k2.below bb k2.lt
         have B1 := B0.trans (bb.mono B0.size)
         have q0 : w1.cell? ⟨w.heap.size, 0, none⟩ = some (.int .i64 k) := k11.cell 0
         have q2 : w1.cell? ⟨w.heap.size + 1, 2, none⟩ = some (.slice A m c) := k21.cell 2
         clear bb z1 k1 k2 B0))
    have HK := Lib.hid (And.intro k11 (And.intro k21 B1))
    have hw1 : w.heap.size ≤ w1.heap.size := B1.size
    have hl1 := k21.lt
    clear k11 k21 B1 q0 q2 h6
    go_loopw [5, 18] (fun q x wr' => ∃ (n : Nat) (G : Option Addr) (gm gc : Nat) (wr : World), wr = wr' ∧ n ≤ m ∧ x = .int .i64 n ∧ q = .slice G gm gc ∧ Hid (Zo wr w1.heap.size G gm gc ((idsP L).take n)) ∧ Hid (Below w1.heap.size w1 wr)) (fun _ x _ => m - (intOf x).toNat)
    case atStart => exact ⟨0, none, 0, 0, _, rfl, Nat.zero_le _, rfl, rfl, Lib.hid (zo_nil _ _), Lib.hid (Below.refl _ _)⟩
    case round =>
      obtain ⟨n, G, gm, gc, wr, hwr, hn, rfl, rfl, HZ, HB⟩ := hrel
      subst hwr
      have hsz := HB.out.size
      have zg := HZ.out
      have hgn : gm = n := by
        have h1 := zg.len
        rw [List.length_take] at h1
        have h2 : (idsP L).length = m := by unfold idsP; rw [List.length_map]; exact HPL.out.symm
        omega
      have HGN := Lib.hid hgn
      have hg6 : gm + 1 ≤ 1000000 := by omega
      clear hgn HZ
      by_cases hlt : n < m
      · have hlt' : (n : Int) < (m : Int) := by omega
        have hnl : n < L.length := by have := HPL.out; omega
        obtain ⟨b, off, hA, hb, hc⟩ := (HX.out.on (HK.out.2.2.trans (HB.out.mono hw1))).p.at_ n hnl
        subst hA
        have HT := Lib.hid (show (idsP L).take (n + 1) = (idsP L).take n ++ [(L.getD n pw0).1.i] by
          rw [List.take_succ_eq_append_getElem (by simpa [idsP] using hnl)]
          congr 1
          simp [idsP, List.getD, hnl])
        generalize L.getD n pw0 = x at hc HT
        have hs3 : (prC x).size = 3 := pr_size x
        go_wp2_with (first
          | (refine wpList_load_mid rfl 49 (.tmp 20) rfl b (off + n * 3) rfl (prC x).toList _ hc Tryz.underlying49 rfl (pr_infL x) ?_)
          | (refine wpList_store_blk rfl 49 (.tmp 7) (.tmp 21) rfl wr.heap.size (prC pw0) (prC x) 49 rfl rfl (Blk.new _ _ _) rfl (pr_inf x) (pr_one x) ?_
             intro W1 k4 n4
             have bb : Below wr.heap.size wr W1 := ((Below.refl _ wr).alloc (Nat.le_refl _) _).trans (n4.below _ (Nat.le_refl _) (by simp))
             have x0 : W1.cell? ⟨wr.heap.size, 0, none⟩ = some (.int .i64 x.1.i) := k4.cell 0
             have ba : Below W1.heap.size W1 (W1.alloc (.cells #[.int .i64 x.1.i] 3)) := (Below.refl _ _).alloc (Nat.le_refl _) _
             have z2 := (zg.below bb (Nat.le_refl _)).below ba (Nat.le_refl _)
             have B2 := HB.out.trans ((bb.trans (ba.mono bb.size)).mono hsz)
             have hnb : (W1.alloc (.cells #[.int .i64 x.1.i] 3)).cell? ⟨W1.heap.size, 0, none⟩ = some (.int .i64 x.1.i) := by simp
             have hs2 : w1.heap.size ≤ (W1.alloc (.cells #[.int .i64 x.1.i] 3)).heap.size := B2.size
             clear n4 bb ba k4)
          | (refine wpList_app1Z rfl (.tmp 22) (.tmp 25) rfl w1.heap.size G gm gc _ rfl z2 W1.heap.size x.1.i rfl hnb hg6 hs2 ?_
             intro A6 c6 V2 z3 b3
             have B3 := B2.trans b3
             rw [← HT.out] at z3))
        go_roundw
        case rel => exact ⟨n + 1, A6, gm + 1, c6, _, rfl, by omega, by go_num, rfl, Lib.hid z3, Lib.hid B3⟩
        case measure => simp [intOf]; omega
      · obtain rfl : n = m := by omega
        rw [List.take_of_length_le (by unfold idsP; rw [List.length_map, ← HPL.out]; omega)] at zg
        have k5 := HK.out.1.below HB.out (by omega)
        have B5 := HK.out.2.2.trans (HB.out.mono hw1)
        have c1 : wr.cell? ⟨w.heap.size, 1, none⟩ = some (.int .i64 i) := k5.cell 1
        have c2 : wr.cell? ⟨w.heap.size, 2, none⟩ = some (.bool f) := k5.cell 2
        have hlen : (opL k L).length = gm := by rw [HL.out]; exact zg.len.symm
        have HLEN := Lib.hid hlen
        clear hlen
        cases f
        · go_wp2_with fail
          go_ret
          exact ⟨by rw [← HR.out]; unfold opId; rw [if_neg (by simp)]; rfl, B5⟩
        · by_cases hg : 0 < gm
          · obtain ⟨hp1, hp2, hp3⟩ := opQ_lt (i := i) hg
            have hq : opId k i true L = (opL k L).getD (opQ i gm) 0 := by unfold opId; rw [if_pos ⟨rfl, by rw [HLEN.out]; exact hg⟩, HLEN.out]
            rw [HL.out] at hq
            have hww := wrap_nat (n := gm) (by omega)
            have hgi : (0 : Int) < (gm : Int) := by omega
            have hgz : ¬ ((gm : Int) = 0) := by omega
            obtain ⟨b, off, hA, hb, hc⟩ := zg.ri (opQ i gm) (by rw [← zg.len]; exact hp1)
            subst hA
            have HQ := Lib.hid hq
            generalize opQ i gm = p at hp1 hp2 hp3 hc HQ
            have hpi : (p : Int) < (gm : Int) := by omega
            clear hq
            go_wp2_with fail
            go_ret
            exact ⟨by rw [← HR.out, HQ.out]; rfl, B5⟩
          · obtain rfl : gm = 0 := by omega
            go_wp2_with fail
            go_ret
            exact ⟨by rw [← HR.out]; unfold opId; rw [if_neg (by rw [HLEN.out]; simp)]; rfl, B5⟩
  · have HL := Lib.hid (show opL k L = withs [] (tidF L) by unfold opL; rw [if_neg h6])
    have hgm6 : (withs [] (tidF L)).length ≤ 1000000 := HN6.out
    go_wp2_with (first
      | (refine wpList_load_row rfl 27 (.tmp 3) rfl (w.heap.size + 1) rfl 27 (tkC a Ua um uc A m c) (0, 0) _ k2.blk Tryz.underlying27 rfl (tk_inf _ _ _ _ _ _ _) ?_)
      | (refine LV.out.mono ?_
         clear LV
         rintro e w1 ⟨G, gm, gc, rfl, zg, bb⟩
         have k11 := k1.below bb k1.lt
         have B1 := B0.trans (bb.mono B0.size)
         have q0 : w1.cell? ⟨w.heap.size, 0, none⟩ = some (.int .i64 k) := k11.cell 0
         have hgm : gm ≤ 1000000 := by rw [zg.len]; exact hgm6
         have c1 : w1.cell? ⟨w.heap.size, 1, none⟩ = some (.int .i64 i) := k11.cell 1
         have c2 : w1.cell? ⟨w.heap.size, 2, none⟩ = some (.bool f) := k11.cell 2
         have hlen : (opL k L).length = gm := by rw [HL.out]; exact zg.len.symm
         have HLEN := Lib.hid hlen
         clear hlen bb k1 k2 B0 k11 hgm6
         cases f
         · go_wp2_with fail
           go_ret
           exact ⟨by rw [← HR.out]; unfold opId; rw [if_neg (by simp)]; rfl, B1⟩
         · by_cases hg : 0 < gm
           · obtain ⟨hp1, hp2, hp3⟩ := opQ_lt (i := i) hg
             have hq : opId k i true L = (opL k L).getD (opQ i gm) 0 := by unfold opId; rw [if_pos ⟨rfl, by rw [HLEN.out]; exact hg⟩, HLEN.out]
             rw [HL.out] at hq
             have hww := wrap_nat (n := gm) (by omega)
             have hgi : (0 : Int) < (gm : Int) := by omega
             have hgz : ¬ ((gm : Int) = 0) := by omega
             obtain ⟨b, off, hA, hb, hc⟩ := zg.ri (opQ i gm) (by rw [← zg.len]; exact hp1)
             subst hA
             have HQ := Lib.hid hq
             generalize opQ i gm = p at hp1 hp2 hp3 hc HQ
             have hpi : (p : Int) < (gm : Int) := by omega
             clear hq
             go_wp2_with fail
             go_ret
             exact ⟨by rw [← HR.out, HQ.out]; rfl, B1⟩
           · obtain rfl : gm = 0 := by omega
             go_wp2_with fail
             go_ret
             exact ⟨by rw [← HR.out]; unfold opId; rw [if_neg (by rw [HLEN.out]; simp)]; rfl, B1⟩))
end Go.Proofs.YtlelhhgggnjndaaGreat
