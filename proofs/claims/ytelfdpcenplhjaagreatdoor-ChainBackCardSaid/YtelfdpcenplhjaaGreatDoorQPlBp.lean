/-
  Pools that differ in counts and bits alone: plain lemmas for ChainBack.
-/
import Derived.Test.YtelfdpcenplhjaaGreatDoorQJP
import Derived.Test.YtelfdpcenplhjaaGreatDoorQPlW
namespace Go.Proofs.YtelfdpcenplhjaaGreatDoor
open Go.RowKit Go.Shelf
set_option linter.unusedVariables false
set_option linter.unusedSimpArgs false
def coreN (x : Nm) : Int × Int × List Ins × Int := (x.i, x.p, x.g, x.z)
theorem find_core (p : Int × Int × List Ins × Int → Bool) : ∀ {L M : List Nl}, L.map (fun x => coreN x.1) = M.map (fun x => coreN x.1) → (L.find? fun x => p (coreN x.1)).map (fun x => coreN x.1) = (M.find? fun x => p (coreN x.1)).map (fun x => coreN x.1)
  | [], [], _ => rfl
  | [], _ :: _, h => by simp at h
  | _ :: _, [], h => by simp at h
  | x :: L, y :: M, h => by
    simp only [List.map_cons, List.cons.injEq] at h
    obtain ⟨h1, h2⟩ := h
    have ih := find_core p h2
    rw [List.find?_cons, List.find?_cons, h1]
    cases p (coreN y.1)
    · exact ih
    · simp [h1]
theorem count_core (p : Int × Int × List Ins × Int → Bool) {L M : List Nl} (h : L.map (fun x => coreN x.1) = M.map (fun x => coreN x.1)) : L.countP (fun x => p (coreN x.1)) = M.countP (fun x => p (coreN x.1)) := by
  have e : ∀ K : List Nl, K.countP (fun x => p (coreN x.1)) = (K.map (fun x => coreN x.1)).countP p := fun K => by rw [List.countP_map]; rfl
  rw [e, e, h]
section
variable {L M : List Nl}
theorem idR_core (h : L.map (fun x => coreN x.1) = M.map (fun x => coreN x.1)) (id : Int) : coreN (idR L id).1.1 = coreN (idR M id).1.1 ∧ (idR L id).2 = (idR M id).2 := by
  have e := find_core (fun x => x.1 == id) h
  simp only [coreN] at e
  unfold idR
  cases h1 : L.find? (fun x => x.1.i == id) <;> cases h2 : M.find? (fun x => x.1.i == id) <;> rw [h1, h2] at e <;> simp at e
  · exact ⟨rfl, rfl⟩
  · exact ⟨by simp [coreN, e], rfl⟩
theorem kids_core (h : L.map (fun x => coreN x.1) = M.map (fun x => coreN x.1)) (id : Int) : kidsN L id = kidsN M id := count_core (fun x => x.2.1 == id) h
theorem rise_core : ∀ {L M : List Nl} (l : Int), L.map (fun x => coreN x.1) = M.map (fun x => coreN x.1) → riseB l L = riseB l M
  | [], [], _, _ => rfl
  | [], _ :: _, _, h => by simp at h
  | _ :: _, [], _, h => by simp at h
  | x :: L, y :: M, l, h => by
    simp only [List.map_cons, List.cons.injEq] at h
    have hi : x.1.i = y.1.i := congrArg Prod.fst h.1
    unfold riseB
    rw [hi, rise_core _ h.2]
theorem stand_core (h : L.map (fun x => coreN x.1) = M.map (fun x => coreN x.1)) {x y : Nm} (hc : coreN x = coreN y) (hk : x.k ≤ y.k) (hs : standV L x = true) : standV M y = true := by
  simp only [coreN, Prod.mk.injEq] at hc
  obtain ⟨hi, hp, hg, hz⟩ := hc
  obtain ⟨e1, e2⟩ := idR_core h x.p
  have e3 : (idR L x.p).1.1.z = (idR M x.p).1.1.z := congrArg (fun q => q.2.2.2) e1
  unfold standV at hs ⊢
  rw [← hp, ← hg, ← hz, ← e2, ← e3, ← hi, ← kids_core h]
  simp only [Bool.and_eq_true, decide_eq_true_eq] at hs ⊢
  exact ⟨hs.1, Int.le_trans hs.2 hk⟩
theorem chk_core (h : L.map (fun x => coreN x.1) = M.map (fun x => coreN x.1)) (hk : ∀ j, j < L.length → (L.getD j nl0).1.k ≤ (M.getD j nl0).1.k) (hc : chkP L = 0) : chkP M = 0 := by
  have hl : L.length = M.length := by have := congrArg List.length h; simpa using this
  unfold chkP at hc ⊢
  split at hc
  · rename_i hb
    simp only [Bool.and_eq_true, List.all_eq_true] at hb
    rw [if_pos]
    simp only [Bool.and_eq_true, List.all_eq_true]
    refine ⟨by rw [← rise_core 0 h]; exact hb.1, fun y hy => ?_⟩
    obtain ⟨j, hj, rfl⟩ := List.getElem_of_mem hy
    have hjL : j < L.length := by omega
    have h1 : (L.map (fun x => coreN x.1))[j]? = (M.map (fun x => coreN x.1))[j]? := by rw [h]
    simp [hj, hjL] at h1
    have h2 := hk j hjL
    simp [List.getD, hj, hjL] at h2
    exact stand_core h h1 h2 (hb.2 _ (List.getElem_mem hjL))
  · cases hc
end
theorem rise_all : ∀ {L : List Nl} {l : Int}, riseB l L = true → ∀ x ∈ L, l < x.1.i
  | [], _, _, x, hx => by cases hx
  | y :: L, l, h, x, hx => by
    unfold riseB at h
    simp only [Bool.and_eq_true, Bool.not_eq_true', Bool.or_eq_false_iff, decide_eq_false_iff_not] at h
    rcases List.mem_cons.1 hx with rfl | hx
    · omega
    · have := rise_all h.2 x hx
      omega
theorem rise_ins (n : Nl) : ∀ (k : Nat) {L : List Nl} {l : Int}, riseB l L = true → (∀ j : Nat, j < k → ∃ x ∈ L, x.1.i = l + j + 1) → (∀ x ∈ L, ¬ x.1.i = l + k + 1) → n.1.i = l + k + 1 → l + k + 1 ≤ 24 → riseB l (insN k n L) = true
  | 0, L, l, h, _, hno, hn, h24 => by
    show riseB l (n :: L) = true
    unfold riseB
    rw [decide_eq_false (by omega : ¬ n.1.i ≤ l), decide_eq_false (by omega : ¬ 24 < n.1.i)]
    simp only [Bool.or_false, Bool.not_false, Bool.true_and]
    cases L with
    | nil => rfl
    | cons x L =>
      have hx := rise_all h x (by simp)
      have hne := hno x (by simp)
      unfold riseB at h ⊢
      simp only [Bool.and_eq_true, Bool.not_eq_true', Bool.or_eq_false_iff, decide_eq_false_iff_not] at h ⊢
      exact ⟨⟨by omega, h.1.2⟩, h.2⟩
  | k + 1, L, l, h, hall, hno, hn, h24 => by
    cases L with
    | nil => obtain ⟨x, hx, _⟩ := hall 0 (by omega); cases hx
    | cons x L =>
      have h0 := h
      unfold riseB at h
      simp only [Bool.and_eq_true, Bool.not_eq_true', Bool.or_eq_false_iff, decide_eq_false_iff_not] at h
      have hxi : x.1.i = l + 1 := by
        obtain ⟨y, hy, hyi⟩ := hall 0 (by omega)
        rcases List.mem_cons.1 hy with rfl | hy
        · simpa using hyi
        · have := rise_all h.2 y hy
          have := rise_all h0 x (by simp)
          simp at hyi
          omega
      have ih := rise_ins n k (L := L) (l := l + 1) (by rw [← hxi]; exact h.2) (fun j hj => by
        obtain ⟨y, hy, hyi⟩ := hall (j + 1) (by omega)
        rcases List.mem_cons.1 hy with rfl | hy
        · exfalso; omega
        · exact ⟨y, hy, by omega⟩) (fun y hy e => hno y (by simp [hy]) (by omega)) (by omega) (by omega)
      have e : insN (k + 1) n (x :: L) = x :: insN k n L := by simp [insN]
      rw [e]
      unfold riseB
      rw [hxi, ih, decide_eq_false (by omega : ¬ l + 1 ≤ l), decide_eq_false (by omega : ¬ 24 < l + 1)]
      rfl
theorem idR_ins {n : Nl} {k : Nat} {L : List Nl} {id : Int} (h : ¬ n.1.i = id) : idR (insN k n L) id = idR L id := by
  have e : (insN k n L).find? (fun x => x.1.i == id) = L.find? (fun x => x.1.i == id) := by
    unfold insN
    rw [List.find?_append, List.find?_cons]
    have : (n.1.i == id) = false := by simpa using h
    rw [this]
    conv => rhs; rw [← List.take_append_drop k L, List.find?_append]
  unfold idR
  rw [e]
theorem kids_ins (n : Nl) (k : Nat) (L : List Nl) (id : Int) : kidsN (insN k n L) id = kidsN L id + if n.1.p = id then 1 else 0 := by
  unfold kidsN insN
  rw [List.countP_append, List.countP_cons]
  conv => rhs; rw [← List.take_append_drop k L, List.countP_append]
  by_cases h : n.1.p = id
  · simp [h]; omega
  · simp [h]
theorem chk_ins {n : Nl} {k : Nat} {L : List Nl} (hc : chkP L = 0) (hn : n.1.i = (k : Int) + 1) (hall : ∀ j : Nat, j < k → ∃ x ∈ L, x.1.i = (j : Int) + 1) (hno : ∀ x ∈ L, ¬ x.1.i = n.1.i) (h24 : (k : Int) + 1 ≤ 24)
    (hp : (idR L n.1.p).2 = true ∨ n.1.p = 0) (hg : chkG n.1.g = 0) (hz : n.1.z = szG L n.1.p n.1.g) (hz2 : n.1.z ≤ 256) (hk : n.1.k = 1) (hkid : ∀ x ∈ L, x.1.i = n.1.p → (kidsN L x.1.i : Int) + 1 ≤ x.1.k) : chkP (insN k n L) = 0 := by
  have hst : riseB 0 L = true ∧ ∀ x ∈ L, standV L x.1 = true := by
    unfold chkP at hc
    split at hc
    · rename_i hb
      simpa only [Bool.and_eq_true, List.all_eq_true] using hb
    · cases hc
  have hpar : ∀ x ∈ L, ¬ n.1.i = x.1.p := fun x hx e => by
    have h := hst.2 x hx
    unfold standV at h
    simp only [Bool.and_eq_true, Bool.or_eq_true, beq_iff_eq] at h
    rcases h.1.1.1.1 with h1 | h1
    · obtain ⟨r, b, hr⟩ : ∃ r b, idR L x.1.p = (r, b) := ⟨_, _, rfl⟩
      rw [hr] at h1
      simp only at h1
      subst h1
      obtain ⟨hm, hi⟩ := idR_some hr
      exact hno r hm (hi.trans e.symm)
    · omega
  have hpn : ¬ n.1.i = n.1.p := fun e => by
    rcases hp with h1 | h1
    · obtain ⟨r, b, hr⟩ : ∃ r b, idR L n.1.p = (r, b) := ⟨_, _, rfl⟩
      rw [hr] at h1
      simp only at h1
      subst h1
      obtain ⟨hm, hi⟩ := idR_some hr
      exact hno r hm (hi.trans e.symm)
    · omega
  have hk0 : kidsN L n.1.i = 0 := by
    unfold kidsN
    rw [List.countP_eq_zero]
    intro x hx
    have := hpar x hx
    simp
    exact fun e => this e.symm
  unfold chkP
  rw [if_pos]
  simp only [Bool.and_eq_true, List.all_eq_true]
  refine ⟨rise_ins n k hst.1 (fun j hj => by obtain ⟨x, hx, e⟩ := hall j hj; exact ⟨x, hx, by omega⟩) (fun x hx e => hno x hx (by omega)) (by omega) (by omega), fun x hx => ?_⟩
  have hx' : x = n ∨ x ∈ L := by
    unfold insN at hx
    rcases List.mem_append.1 hx with h | h
    · exact .inr (List.mem_of_mem_take h)
    · rcases List.mem_cons.1 h with h | h
      · exact .inl h
      · exact .inr (List.mem_of_mem_drop h)
  rcases hx' with rfl | hx'
  · unfold standV
    rw [idR_ins hpn, kids_ins, if_neg (fun e => hpn e.symm), hk0, hg, hk]
    unfold szG at hz
    simp only [Bool.and_eq_true, Bool.or_eq_true, beq_iff_eq, decide_eq_true_eq]
    exact ⟨⟨⟨⟨hp, trivial⟩, hz⟩, hz2⟩, by decide⟩
  · have h := hst.2 x hx'
    unfold standV at h ⊢
    rw [idR_ins (hpar x hx'), kids_ins]
    simp only [Bool.and_eq_true, decide_eq_true_eq] at h ⊢
    refine ⟨h.1, ?_⟩
    have h2 := h.2
    by_cases e : n.1.p = x.1.i
    · rw [if_pos e]
      have := hkid x hx' e.symm
      simp only [Int.natCast_add]
      omega
    · rw [if_neg e]
      simpa using h2
theorem sameB_self (x : Nm) : sameB x x = true := by unfold sameB; simp
theorem eqR_names {L M : List Nl} {m m2 : Nat} {b : Bool} (h : L.map (·.1) = M.map (·.1)) (hm : m = L.length) (hm2 : m2 = M.length) (hb : EqR L M m m2 b) : b = true := by
  have hl : L.length = M.length := by have := congrArg List.length h; simpa using this
  refine hb.2 ⟨by omega, fun k hk => ?_⟩
  have hkL : k < L.length := by omega
  have hkM : k < M.length := by omega
  have h1 : (L.map (·.1))[k]? = (M.map (·.1))[k]? := by rw [h]
  simp [hkL, hkM] at h1
  have e1 : L.getD k nl0 = L[k] := by simp [List.getD, hkL]
  have e2 : M.getD k nl0 = M[k] := by simp [List.getD, hkM]
  rw [e1, e2, h1]
  exact sameB_self _
theorem fresh_full {L : List Nl} {pa : Int} {g : List Ins} (h : freshE L pa g = 0) : ∃ k : Nat, freshN L pa g = ⟨(k : Int) + 1, pa, g, szG L pa g, 1, bitG g 3221225534, bitG g 1073741827⟩ ∧ (k : Int) + 1 ≤ 24 ∧
    (∀ j : Nat, j < k → ∃ x ∈ L, x.1.i = (j : Int) + 1) ∧ (∀ x ∈ L, ¬ x.1.i = (k : Int) + 1) ∧ ((idR L pa).2 = true ∨ pa = 0) ∧ chkG g = 0 ∧ szG L pa g ≤ 256 := by
  have hN : freshN L pa g = ⟨(freeR L).1, pa, g, szG L pa g, 1, bitG g 3221225534, bitG g 1073741827⟩ := by unfold freshN; rw [if_pos h]
  unfold freshE at h
  by_cases hc : chkG g = 0
  · rw [if_pos hc] at h
    by_cases hp : ((idR L pa).2 || pa == 0) = true
    · rw [if_pos hp] at h
      by_cases hf : ((freeR L).2 && decide (szG L pa g ≤ 256)) = true
      · simp only [Bool.and_eq_true, decide_eq_true_eq] at hf
        simp only [Bool.or_eq_true, beq_iff_eq] at hp
        have h2 := hf.1
        unfold freeR at h2
        cases hq : (List.range 24).find? (freeB L) with
        | none => rw [hq] at h2; cases h2
        | some k =>
          have hk1 : (freeR L).1 = (k : Int) + 1 := by unfold freeR; rw [hq]
          have hkb := List.find?_some hq
          have hkm := List.mem_of_find?_eq_some hq
          have hk24 : k < 24 := by simpa using hkm
          refine ⟨k, by rw [hN, hk1], by omega, fun j hj => ?_, fun x hx e => ?_, hp, hc, hf.2⟩
          · have hjf : freeB L j = false := by
              obtain ⟨a, b, hab, hall⟩ := (List.find?_eq_some_iff_append.1 hq).2
              have hja : j ∈ a := by
                have hlen : a.length = k := by
                  have h3 : (List.range 24)[a.length]? = some k := by rw [hab]; simp
                  have hlt : a.length < 24 := by
                    have := congrArg List.length hab
                    simp at this
                    omega
                  simp [hlt] at h3
                  exact h3
                have h4 : (List.range 24)[j]? = a[j]? := by rw [hab, List.getElem?_append_left (by omega)]
                simp [show j < 24 by omega] at h4
                exact List.mem_of_getElem? h4.symm
              have := hall j hja
              simpa using this
            unfold freeB at hjf
            cases hx : L.find? (fun x => x.1.i == ((j : Int) + 1)) with
            | none => rw [hx] at hjf; cases hjf
            | some x => exact ⟨x, List.mem_of_find?_eq_some hx, by have := List.find?_some hx; simpa using this⟩
          · unfold freeB at hkb
            have := List.find?_eq_none.1 (Option.isNone_iff_eq_none.1 hkb) x hx
            exact this (by simp [e])
      · rw [if_neg hf] at h; cases h
    · rw [if_neg hp] at h; cases h
  · rw [if_neg hc] at h; exact absurd h hc
theorem chk_add {L L2 : List Nl} {pa : Int} {g : List Ins} {k : Nat} (hc : chkP L = 0) (hE : freshE L pa g = 0) (hi : (freshN L pa g).i = (k : Nat) + 1) (hn : L2.map (·.1) = insM k (freshN L pa g) (L.map (·.1))) (hkid : ∀ x ∈ L, x.1.i = pa → (kidsN L x.1.i : Int) + 1 ≤ x.1.k) : chkP L2 = 0 := by
  obtain ⟨k', hf, h24, hall, hno, hp, hg, hz⟩ := fresh_full hE
  have hkk : k' = k := by rw [hf] at hi; simp only at hi; omega
  subst hkk
  have hnm : L2.map (·.1) = (insN k' ((freshN L pa g), loc0) L).map (·.1) := by rw [names_ins]; exact hn
  rw [chkP_names hnm]
  rw [hf]
  exact chk_ins hc rfl hall hno h24 hp hg rfl hz rfl hkid
theorem give_new {L L2 : List Nl} {pa : Int} {g : List Ins} {k : Nat} (hc : chkP L = 0) (hE : freshE L pa g = 0) (hi : (freshN L pa g).i = (k : Nat) + 1) (hn : L2.map (·.1) = insM k (freshN L pa g) (L.map (·.1))) : giveE L2 (freshN L pa g).i = 0 := by
  obtain ⟨k', hf, h24, hall, hno, hp, hg, hz⟩ := fresh_full hE
  have hkk : k' = k := by rw [hf] at hi; simp only at hi; omega
  subst hkk
  have hnm : L2.map (·.1) = (insN k' ((freshN L pa g), loc0) L).map (·.1) := by rw [names_ins]; exact hn
  rw [giveE_names hnm]
  have hst : ∀ x ∈ L, standV L x.1 = true := by
    unfold chkP at hc
    split at hc
    · rename_i hb
      simp only [Bool.and_eq_true, List.all_eq_true] at hb
      exact hb.2
    · cases hc
  have hpar : ∀ x ∈ L, ¬ x.1.p = (k' : Int) + 1 := fun x hx e => by
    have h := hst x hx
    unfold standV at h
    simp only [Bool.and_eq_true, Bool.or_eq_true, beq_iff_eq] at h
    rcases h.1.1.1.1 with h1 | h1
    · obtain ⟨r, b, hr⟩ : ∃ r b, idR L x.1.p = (r, b) := ⟨_, _, rfl⟩
      rw [hr] at h1
      simp only at h1
      subst h1
      obtain ⟨hm, hi⟩ := idR_some hr
      exact hno r hm (hi.trans e)
    · omega
  have hpn : ¬ pa = (k' : Int) + 1 := fun e => by
    rcases hp with h1 | h1
    · obtain ⟨r, b, hr⟩ : ∃ r b, idR L pa = (r, b) := ⟨_, _, rfl⟩
      rw [hr] at h1
      simp only at h1
      subst h1
      obtain ⟨hm, hi⟩ := idR_some hr
      exact hno r hm (hi.trans e)
    · omega
  have hk0 : kidsN L ((k' : Int) + 1) = 0 := by
    unfold kidsN
    rw [List.countP_eq_zero]
    intro x hx
    have := hpar x hx
    simp
    exact this
  have hfind : (insN k' (freshN L pa g, loc0) L).find? (fun x => x.1.i == (k' : Int) + 1) = some (freshN L pa g, loc0) := by
    unfold insN
    rw [List.find?_append]
    have h1 : (L.take k').find? (fun x => x.1.i == (k' : Int) + 1) = none := List.find?_eq_none.2 fun x hx => by
      have := hno x (List.mem_of_mem_take hx)
      simpa using this
    rw [h1, List.find?_cons]
    have : ((freshN L pa g).i == (k' : Int) + 1) = true := by rw [hi]; simp
    rw [this]
    rfl
  have hidr : idR (insN k' (freshN L pa g, loc0) L) ((k' : Int) + 1) = ((freshN L pa g, loc0), true) := by unfold idR; rw [hfind]
  rw [hi]
  unfold giveE
  rw [hidr, kids_ins, hk0, hf]
  simp only
  rw [if_neg hpn, if_pos]
  exact ⟨trivial, by decide⟩
theorem filter_names (p : Nm → Bool) (L : List Nl) : (L.filter fun x => p x.1).map (·.1) = (L.map (·.1)).filter p := by
  rw [List.filter_map]
  rfl
theorem idR_new {n : Nl} {k : Nat} {L : List Nl} (hno : ∀ x ∈ L, ¬ x.1.i = n.1.i) : idR (insN k n L) n.1.i = (n, true) := by
  have hfind : (insN k n L).find? (fun x => x.1.i == n.1.i) = some n := by
    unfold insN
    rw [List.find?_append]
    have h1 : (L.take k).find? (fun x => x.1.i == n.1.i) = none := List.find?_eq_none.2 fun x hx => by
      have := hno x (List.mem_of_mem_take hx)
      simpa using this
    rw [h1, List.find?_cons]
    simp
  unfold idR
  rw [hfind]
theorem give_parts {L L1 U : List Nl} {n : Nm} {k : Nat} (hno : ∀ x ∈ L, ¬ x.1.i = n.i) (hn1 : n.k = 1) (hpn : ¬ n.i = n.p) (hk2 : ∀ x ∈ L, x.1.i = n.p → 2 ≤ x.1.k) (hn : L1.map (·.1) = insM k n (L.map (·.1))) (hU : Up L1 n.i U) :
    (goneU U).map (fun x => x.1.i) = [n.i] ∧ (leftN L1 U).map (·.1) = L.map (·.1) ∧ (((idR L n.p).2 = false ∧ staysU U = 0) ∨ ((idR L n.p).2 = true ∧ staysU U = n.p)) := by
  have hnm : L1.map (·.1) = (insN k (n, loc0) L).map (·.1) := by rw [names_ins]; exact hn
  have h1 := idR_names hnm n.i
  rw [idR_new (n := (n, loc0)) (k := k) hno] at h1
  have h2 := idR_names hnm n.p
  rw [idR_ins (n := (n, loc0)) hpn] at h2
  obtain ⟨r, b, hr⟩ : ∃ r b, idR L1 n.i = (r, b) := ⟨_, _, rfl⟩
  rw [hr] at h1
  obtain ⟨e1, e2⟩ := h1
  simp only at e1 e2
  subst e2
  have hgone : (goneU U).map (fun x => x.1.i) = [n.i] ∧ (((idR L n.p).2 = false ∧ staysU U = 0) ∨ ((idR L n.p).2 = true ∧ staysU U = n.p)) := by
    cases hU with
    | nil h0 => rw [hr] at h0; cases h0
    | cons h0 hU' =>
      rename_i r' U'
      rw [hr] at h0
      cases h0
      rw [e1] at hU'
      have hrk : (r.1.k == 1) = true := by rw [e1, hn1]; rfl
      cases hU' with
      | nil hq =>
        rw [hq] at h2
        have hg1 : goneU [r] = [r] := by unfold goneU; rw [List.takeWhile_cons, hrk]; rfl
        have hs1 : staysU [r] = 0 := by unfold staysU; rw [List.find?_cons, hrk]; rfl
        exact ⟨by rw [hg1]; simp [e1], .inl ⟨h2.2.symm, hs1⟩⟩
      | cons hq hU'' =>
        rename_i q U''
        rw [hq] at h2
        obtain ⟨e3, e4⟩ := h2
        simp only at e3 e4
        obtain ⟨q', b', hq'⟩ : ∃ q' b', idR L n.p = (q', b') := ⟨_, _, rfl⟩
        rw [hq'] at e3 e4 ⊢
        simp only at e3 e4
        subst e4
        obtain ⟨hm, hi⟩ := idR_some hq'
        have h2k := hk2 q' hm hi
        have hqk : (q.1.k == 1) = false := by rw [e3]; simp; omega
        have hg1 : goneU (r :: q :: U'') = [r] := by unfold goneU; rw [List.takeWhile_cons, hrk, List.takeWhile_cons, hqk]; rfl
        have hs1 : staysU (r :: q :: U'') = q.1.i := by unfold staysU; rw [List.find?_cons, hrk, List.find?_cons, hqk]; rfl
        exact ⟨by rw [hg1]; simp [e1], .inr ⟨rfl, by rw [hs1, e3]; exact hi⟩⟩
  refine ⟨hgone.1, ?_, hgone.2⟩
  unfold leftN
  rw [hgone.1, filter_names (fun x => !([n.i].contains x.i)), hn]
  unfold insM
  rw [List.filter_append, List.filter_cons]
  have hz : (!([n.i].contains n.i)) = false := by simp
  have hall : ∀ M : List Nm, (∀ x ∈ M, ¬ x.i = n.i) → M.filter (fun x => !([n.i].contains x.i)) = M := fun M hM => List.filter_eq_self.2 fun x hx => by
    have := hM x hx
    simpa using this
  have hno' : ∀ x ∈ L.map (·.1), ¬ x.i = n.i := fun x hx => by
    obtain ⟨y, hy, rfl⟩ := List.mem_map.1 hx
    exact hno y hy
  rw [hz, hall _ (fun x hx => hno' x (List.mem_of_mem_take hx)), if_neg (by decide), hall _ (fun x hx => hno' x (List.mem_of_mem_drop hx)), List.take_append_drop]
end Go.Proofs.YtelfdpcenplhjaaGreatDoor
