/-
  What ChainBack calls, in the cases in which it calls it.
-/
import Derived.Test.YtelfdpcenplhjaaGreatDoorQPlBq
import Derived.Test.YtelfdpcenplhjaaGreatDoorQJO
namespace Go.Proofs.YtelfdpcenplhjaaGreatDoor
open Go.RowKit Go.Shelf
set_option linter.unusedVariables false
set_option linter.unusedSimpArgs false
def holdN (own : List Int) (id : Int) : Nat := own.countP (· == id)
structure Inv (L : List Nl) (own : List Int) (q : Int) : Prop where
  chk : chkP L = 0
  cnt : ∀ x ∈ L, x.1.k = (holdN own x.1.i : Int) + kidsN L x.1.i + if q = x.1.i then 1 else 0
  has : ∀ o ∈ own, o ≠ 0 → ∃ x ∈ L, x.1.i = o
section
variable {L M : List Nl} {own : List Int} {q : Int}
theorem mem_of_names (h : L.map (·.1) = M.map (·.1)) {x : Nl} (hx : x ∈ L) : ∃ y ∈ M, y.1 = x.1 := by
  have : x.1 ∈ M.map (·.1) := by rw [← h]; exact List.mem_map_of_mem hx
  obtain ⟨y, hy, e⟩ := List.mem_map.1 this
  exact ⟨y, hy, e⟩
theorem Inv.names (h : Inv L own q) (hn : L.map (·.1) = M.map (·.1)) : Inv M own q := by
  refine ⟨(chkP_names hn).symm.trans h.chk, fun x hx => ?_, fun o ho h0 => ?_⟩
  · obtain ⟨y, hy, e⟩ := mem_of_names hn.symm hx
    rw [← e, ← kids_names hn]
    exact h.cnt y hy
  · obtain ⟨x, hx, e⟩ := h.has o ho h0
    obtain ⟨y, hy, e2⟩ := mem_of_names hn hx
    exact ⟨y, hy, by rw [e2]; exact e⟩
theorem hold_set {k : Nat} (hk : k < own.length) (v id : Int) : (holdN (own.set k v) id : Int) = holdN own id - (if own[k] = id then 1 else 0) + (if v = id then 1 else 0) := by
  have h := List.countP_set (p := (· == id)) (l := own) (i := k) (a := v) hk
  have h1 : own[k] = id → 1 ≤ holdN own id := fun e => by
    unfold holdN
    exact List.countP_pos_iff.2 ⟨own[k], List.getElem_mem hk, by simp [e]⟩
  unfold holdN at h1 ⊢
  rw [h]
  by_cases e1 : own[k] = id <;> by_cases e2 : v = id <;> simp only [e1, e2, beq_self_eq_true, if_true, if_false, beq_iff_eq] <;> simp only [e1] at h1 <;> (try have := h1 trivial) <;> omega
theorem mem_id (hc : chkP L = 0) {x y : Nl} (hx : x ∈ L) (hy : y ∈ L) (h : x.1.i = y.1.i) : x = y := by
  have h1 := rise_idR (chk_std hc).1 x hx
  have h2 := rise_idR (chk_std hc).1 y hy
  rw [h, h2] at h1
  exact (congrArg Prod.fst h1).symm
theorem parent_in (hc : chkP L = 0) {x : Nl} (hx : x ∈ L) (hp : x.1.p ≠ 0) : ∃ y ∈ L, y.1.i = x.1.p := by
  have h := (chk_std hc).2 x hx
  unfold standV at h
  simp only [Bool.and_eq_true, Bool.or_eq_true, beq_iff_eq] at h
  rcases h.1.1.1.1 with h1 | h1
  · obtain ⟨r, b, hr⟩ : ∃ r b, idR L x.1.p = (r, b) := ⟨_, _, rfl⟩
    rw [hr] at h1
    simp only at h1
    subst h1
    obtain ⟨hm, hi⟩ := idR_some hr
    exact ⟨r, hm, hi⟩
  · exact absurd h1 hp
theorem kids_pos {x : Nl} (hx : x ∈ L) {id : Int} (h : x.1.p = id) : 1 ≤ kidsN L id := by
  unfold kidsN
  exact List.countP_pos_iff.2 ⟨x, hx, by simp [h]⟩
theorem kids_none {id : Int} (h : kidsN L id = 0) : ∀ x ∈ L, ¬ x.1.p = id := fun x hx e => by
  have := kids_pos hx e
  omega
theorem idR_noneQ (h : ∀ x ∈ L, ¬ x.1.i = q) : idR L q = (nl0, false) := by
  unfold idR
  rw [List.find?_eq_none.2 fun x hx => by simpa using h x hx]
theorem inv_nil (n : Nat) : Inv [] (List.replicate n 0) 0 := ⟨rfl, fun x hx => (by cases hx), fun o ho h => absurd (List.eq_of_mem_replicate ho) h⟩
theorem rise_filter (p : Nl → Bool) : ∀ {L : List Nl} {l : Int}, riseB l L = true → riseB l (L.filter p) = true
  | [], _, _ => rfl
  | x :: L, l, h => by
    have h0 := h
    unfold riseB at h
    simp only [Bool.and_eq_true] at h
    rw [List.filter_cons]
    cases p x
    · have ih := rise_filter p h.2
      have hx := h.1
      simp only [Bool.not_eq_true', Bool.or_eq_false_iff, decide_eq_false_iff_not] at hx
      simp only [Bool.false_eq_true, if_false]
      cases hf : L.filter p with
      | nil => rfl
      | cons y M =>
        rw [hf] at ih
        unfold riseB at ih ⊢
        simp only [Bool.and_eq_true, Bool.not_eq_true', Bool.or_eq_false_iff, decide_eq_false_iff_not] at ih ⊢
        exact ⟨⟨by omega, ih.1.2⟩, ih.2⟩
    · simp only [if_true]
      unfold riseB
      simp only [Bool.and_eq_true]
      exact ⟨h.1, rise_filter p h.2⟩
def dropI (L : List Nl) (id : Int) : List Nl := L.filter fun x => !(x.1.i == id)
theorem mem_dropI {x : Nl} {id : Int} : x ∈ dropI L id ↔ x ∈ L ∧ ¬ x.1.i = id := by
  unfold dropI
  rw [List.mem_filter]
  simp
theorem idR_dropI {id k : Int} (h : ¬ id = k) : idR (dropI L k) id = idR L id := by
  have e : (dropI L k).find? (fun x => x.1.i == id) = L.find? (fun x => x.1.i == id) := by
    unfold dropI
    rw [List.find?_filter]
    congr 1
    funext x
    by_cases hx : x.1.i = id
    · simp [hx, h]
    · simp [hx]
  unfold idR
  rw [e]
theorem kids_dropI {x : Nl} (hc : chkP L = 0) (hx : x ∈ L) (id : Int) : (kidsN (dropI L x.1.i) id : Int) = kidsN L id - if x.1.p = id then 1 else 0 := by
  have key : ∀ {L : List Nl} {l : Int}, riseB l L = true → x ∈ L → (kidsN (dropI L x.1.i) id : Int) = kidsN L id - if x.1.p = id then 1 else 0 := by
    intro L
    induction L with
    | nil => intro l _ hx; cases hx
    | cons y L ih =>
      intro l h hx
      unfold riseB at h
      simp only [Bool.and_eq_true] at h
      have hcons : ∀ M : List Nl, ∀ z : Nl, (kidsN (z :: M) id : Int) = kidsN M id + if z.1.p = id then 1 else 0 := fun M z => by
        unfold kidsN
        rw [List.countP_cons]
        by_cases e : z.1.p = id <;> simp [e]
      rcases List.mem_cons.1 hx with rfl | hx
      · have e : dropI (x :: L) x.1.i = L := by
          unfold dropI
          rw [List.filter_cons]
          simp only [beq_self_eq_true, Bool.not_true, Bool.false_eq_true, if_false]
          exact List.filter_eq_self.2 fun z hz => by
            have := rise_all h.2 z hz
            simp; omega
        rw [e, hcons]
        omega
      · have hne : ¬ y.1.i = x.1.i := by have := rise_all h.2 x hx; omega
        have e : dropI (y :: L) x.1.i = y :: dropI L x.1.i := by
          unfold dropI
          rw [List.filter_cons]
          simp [hne]
        rw [e, hcons, hcons, ih h.2 hx]
        omega
  exact key (chk_std hc).1 hx
theorem Inv.drop {x : Nl} (h : Inv L own x.1.i) (hx : x ∈ L) (hk : x.1.k = 1) : Inv (dropI L x.1.i) own x.1.p ∧ kidsN L x.1.i = 0 ∧ ¬ x.1.p = x.1.i := by
  have h1 := h.cnt x hx
  rw [hk, if_pos rfl] at h1
  have hh : holdN own x.1.i = 0 := by omega
  have hkid : kidsN L x.1.i = 0 := by omega
  have hnp : ¬ x.1.p = x.1.i := kids_none hkid x hx
  obtain ⟨hr, hst⟩ := chk_std h.chk
  refine ⟨⟨?_, fun y hy => ?_, fun o ho h0 => ?_⟩, hkid, hnp⟩
  · unfold chkP
    rw [if_pos]
    simp only [Bool.and_eq_true, List.all_eq_true]
    refine ⟨rise_filter _ hr, fun y hy => ?_⟩
    obtain ⟨hyL, hyx⟩ := mem_dropI.1 hy
    have hs := hst y hyL
    have hyp : ¬ y.1.p = x.1.i := kids_none hkid y hyL
    unfold standV at hs ⊢
    rw [idR_dropI hyp]
    simp only [Bool.and_eq_true, decide_eq_true_eq] at hs ⊢
    refine ⟨hs.1, ?_⟩
    have h2 := kids_dropI h.chk hx y.1.i
    have h3 := hs.2
    split at h2 <;> omega
  · obtain ⟨hyL, hyx⟩ := mem_dropI.1 hy
    have h2 := h.cnt y hyL
    rw [if_neg (fun e => hyx e.symm)] at h2
    rw [h2, kids_dropI h.chk hx]
    omega
  · obtain ⟨y, hy, e⟩ := h.has o ho h0
    refine ⟨y, mem_dropI.2 ⟨hy, fun e2 => ?_⟩, e⟩
    have : 1 ≤ holdN own x.1.i := by
      unfold holdN
      exact List.countP_pos_iff.2 ⟨o, ho, by simp; omega⟩
    omega
theorem up_dropI {id k : Int} {U : List Nl} (hU : Up L id U) : (¬ id = k) → kidsN L k = 0 → Up (dropI L k) id U := by
  induction hU with
  | nil h0 => exact fun h _ => .nil ((idR_dropI h).trans h0)
  | cons h0 _ ih =>
    intro h hk
    obtain ⟨hm, hi⟩ := idR_some h0
    exact .cons ((idR_dropI h).trans h0) (ih (kids_none hk _ hm) hk)
theorem leftN_drop {x : Nl} {U : List Nl} (hk : x.1.k = 1) : leftN L (x :: U) = leftN (dropI L x.1.i) U := by
  have hg : goneU (x :: U) = x :: goneU U := by unfold goneU; rw [List.takeWhile_cons]; simp [hk]
  unfold leftN dropI
  rw [hg, List.filter_filter]
  congr 1
  funext y
  simp only [List.map_cons, List.contains_cons]
  cases (y.1.i == x.1.i) <;> simp
theorem stays_drop {x : Nl} {U : List Nl} (hk : x.1.k = 1) : staysU (x :: U) = staysU U := by
  unfold staysU
  rw [List.find?_cons]
  simp [hk]
theorem rise_lt : ∀ {M : List Nl} {l : Int}, riseB l M = true → ∀ a b : Nat, (hab : a < b) → ∀ (hb : b < M.length), (M[a]'(by omega)).1.i < M[b].1.i
  | [], _, _, a, b, _, hb => by cases hb
  | z :: M, l, hz, a, b, hab, hb => by
    unfold riseB at hz
    simp only [Bool.and_eq_true] at hz
    cases b with
    | zero => omega
    | succ b =>
      cases a with
      | zero => exact rise_all hz.2 _ (List.getElem_mem (by simpa using hb))
      | succ a => exact rise_lt hz.2 a b (by omega) (by simpa using hb)
theorem give_inv : ∀ {U L : List Nl} {q : Int} {L2 : List Nl}, Inv L own q → (∀ x ∈ L, x.1.k ≤ 1000000) → Up L q U → GvL L U L2 → Inv L2 own 0
  | [], L, q, L2, h, hk, hU, hG => by
    have h0 := up_end hU
    have hl : leftN L [] = L := by unfold leftN goneU; simp
    have hs : staysU [] = 0 := rfl
    have hno : ∀ x ∈ L, ¬ q = x.1.i := fun x hx e => by
      have := rise_idR (chk_std h.chk).1 x hx
      rw [← e, h0] at this
      cases this
    have hI : Inv L own 0 := ⟨h.chk, fun x hx => by rw [h.cnt x hx, if_neg (hno x hx), if_neg]; have := no_zero h.chk x hx; omega, h.has⟩
    unfold GvL at hG
    rw [hl, hs] at hG
    rcases hG with ⟨_, rfl⟩ | ⟨k, hp, hlt, _⟩
    · exact hI
    · have h1 := (place_nat hp).2.1
      have h2 := no_zero h.chk _ (getD_mem hlt)
      omega
  | x :: U, L, q, L2, h, hk, hU, hG => by
    obtain ⟨h0, hU'⟩ := up_next hU
    obtain ⟨hm, rfl⟩ := idR_some h0
    by_cases h1 : x.1.k = 1
    · obtain ⟨hI, hkid, hnp⟩ := h.drop hm h1
      unfold GvL at hG
      rw [leftN_drop h1, stays_drop h1] at hG
      exact give_inv (U := U) hI (fun y hy => hk y (mem_dropI.1 hy).1) (up_dropI hU' hnp hkid) hG
    · have hb : (x.1.k == 1) = false := by simpa using h1
      have hg : goneU (x :: U) = [] := by unfold goneU; rw [List.takeWhile_cons, hb]; rfl
      have hs : staysU (x :: U) = x.1.i := by unfold staysU; rw [List.find?_cons, hb]; rfl
      have hl : leftN L (x :: U) = L := by unfold leftN; rw [hg]; simp
      unfold GvL at hG
      rw [hl, hs] at hG
      rcases hG with ⟨hp, _⟩ | ⟨k, hp, hlt, rfl⟩
      · obtain ⟨j, hj, e⟩ := List.getElem_of_mem hm
        have := place_no hp j hj
        rw [show L.getD j nl0 = L[j] by simp [List.getD, hj], e] at this
        exact absurd rfl this
      · have hx : L.getD k nl0 = x := mem_id h.chk (getD_mem hlt) hm (place_nat hp).2.1
        rw [hx]
        obtain ⟨c1, c2⟩ := stand_k ((chk_std h.chk).2 x hm)
        have c3 := hk x hm
        have hw : IntKind.i64.wrap (x.1.k - 1) = x.1.k - 1 := by rw [IntKind.wrap_i64]; omega
        rw [hw]
        have c4 := h.cnt x hm
        rw [if_pos rfl] at c4
        have hcore : (L.set k (cntN x (x.1.k - 1))).map (fun x => coreN x.1) = L.map (fun x => coreN x.1) := by
          have := core_set hlt (x.1.k - 1)
          rw [hx] at this
          exact this.symm
        have hmem : ∀ y ∈ L.set k (cntN x (x.1.k - 1)), y = cntN x (x.1.k - 1) ∨ y ∈ L ∧ ¬ y.1.i = x.1.i := fun y hy => by
          obtain ⟨j, hj, e⟩ := List.getElem_of_mem hy
          rw [List.getElem_set] at e
          have hjl : j < L.length := by simpa using hj
          by_cases hjk : k = j
          · rw [if_pos hjk] at e
            exact .inl e.symm
          · rw [if_neg hjk] at e
            rw [← e]
            refine .inr ⟨List.getElem_mem hjl, fun e2 => hjk ?_⟩
            have hkx : L[k].1.i = x.1.i := by rw [← hx, show L.getD k nl0 = L[k] by simp [List.getD, hlt]]
            have hp2 := (place_nat hp).2.2
            rcases Nat.lt_trichotomy j k with h3 | h3 | h3
            · have h4 := hp2 j h3
              rw [show L.getD j nl0 = L[j] by simp [List.getD, hjl]] at h4
              exact absurd e2 h4
            · exact h3.symm
            · have h4 := rise_lt (chk_std h.chk).1 k j h3 hjl
              omega
        refine ⟨?_, fun y hy => ?_, fun o ho h0' => ?_⟩
        · unfold chkP
          rw [if_pos]
          simp only [Bool.and_eq_true, List.all_eq_true]
          refine ⟨(rise_core 0 hcore).trans (chk_std h.chk).1, fun y hy => ?_⟩
          have key : ∀ z ∈ L, coreN y.1 = coreN z.1 → max 1 (kidsN L z.1.i : Int) ≤ y.1.k → standV (L.set k (cntN x (x.1.k - 1))) y.1 = true := fun z hz hc hm2 => by
            have hs := (chk_std h.chk).2 z hz
            have h3 : standV L { z.1 with k := y.1.k } = true := by
              unfold standV at hs ⊢
              simp only [Bool.and_eq_true, decide_eq_true_eq] at hs ⊢
              exact ⟨hs.1, hm2⟩
            refine stand_core hcore.symm rfl (Int.le_refl _) ?_
            simp only [coreN, Prod.mk.injEq] at hc
            obtain ⟨hi, hp', hg', hz'⟩ := hc
            unfold standV at h3 ⊢
            simp only [hi, hp', hg', hz']
            exact h3
          rcases hmem y hy with rfl | ⟨hyL, _⟩
          · refine key x hm rfl ?_
            show max 1 (kidsN L x.1.i : Int) ≤ x.1.k - 1
            omega
          · refine key y hyL rfl ?_
            have := stand_k ((chk_std h.chk).2 y hyL)
            omega
        · have hkid : ∀ id, kidsN (L.set k (cntN x (x.1.k - 1))) id = kidsN L id := fun id => kids_core hcore id
          rw [hkid]
          rcases hmem y hy with rfl | ⟨hyL, hyx⟩
          · have h0i := no_zero h.chk x hm
            show x.1.k - 1 = (holdN own x.1.i : Int) + kidsN L x.1.i + if 0 = x.1.i then 1 else 0
            rw [if_neg (by omega)]
            omega
          · have h0i := no_zero h.chk y hyL
            rw [h.cnt y hyL, if_neg (fun e => hyx e.symm), if_neg (by omega)]
        · obtain ⟨y, hy, e⟩ := h.has o ho h0'
          by_cases hyx : y.1.i = x.1.i
          · refine ⟨cntN x (x.1.k - 1), ?_, hyx.symm.trans e⟩
            exact List.mem_iff_getElem.2 ⟨k, by simpa using hlt, by simp⟩
          · obtain ⟨j, hj, e2⟩ := List.getElem_of_mem hy
            refine ⟨y, List.mem_iff_getElem.2 ⟨j, by simpa using hj, ?_⟩, e⟩
            rw [List.getElem_set, if_neg, e2]
            rintro rfl
            apply hyx
            rw [← e2, ← hx]
            simp [List.getD, hlt]
end
end Go.Proofs.YtelfdpcenplhjaaGreatDoor
namespace Go.Proofs.YtelfdpcenplhjaaGreatDoor
open Go.RowKit Go.Shelf
set_option linter.unusedVariables false
set_option linter.unusedSimpArgs false
theorem place_or (L : List Nl) (id : Int) : (∃ k : Nat, PlaceR L id k) ∨ PlaceR L id (-1) := by
  cases h : L.findIdx? (fun x => x.1.i == id) with
  | none =>
    rw [List.findIdx?_eq_none_iff] at h
    refine .inr (.inr ⟨rfl, fun j hj => ?_⟩)
    have := h (L.getD j nl0) (getD_mem hj)
    simpa using this
  | some k =>
    rw [List.findIdx?_eq_some_iff_getElem] at h
    obtain ⟨hk, h1, h2⟩ := h
    refine .inl ⟨k, .inl ⟨k, rfl, hk, ?_, fun j hj => ?_⟩⟩
    · rw [show L.getD k nl0 = L[k] by simp [List.getD, hk]]
      simpa using h1
    · have := h2 j hj
      have hjl : j < L.length := by omega
      rw [show L.getD j nl0 = L[j] by simp [List.getD, hjl]]
      simpa using this
section
variable {L M : List Nl}
end
structure Pk (V : World) (A : Option Addr) (m c : Nat) (L : List Nl) : Prop where
  po : Po V V.heap.size A L
  len : m = L.length
  cap : m ≤ c
theorem Pk.below {V V' : World} {A : Option Addr} {m c : Nat} {L : List Nl} (h : Pk V A m c L) (hb : Below V.heap.size V V') : Pk V' A m c L := ⟨(h.po.below hb (Nat.le_refl _)).more hb.size, h.len, h.cap⟩
theorem Pk.of {w V : World} {base : Nat} {A : Option Addr} {m c : Nat} {L : List Nl} (h : No V base A m c L) : Pk V A m c L := ⟨h.po, h.len, h.cap⟩
section
variable {A A1 A2 : Option Addr} {m c m1 c1 m2 c2 : Nat} {L X Y : List Nl} {pa : Int} {g : List Ins} {k : Nat}
theorem cb_check (V : World) (hK : HK V) (hP : Pk V A m c L) (h6 : L.length ≤ 1000) : Calls Tryz.prog 19 #[.agg #[.slice A m c]] V fun e w' => e = .returned (.int .i64 (chkP L)) ∧ Below V.heap.size V w' :=
  pcheck_any A m c L V hK.k hP.po hP.len hP.cap (by have := hP.len; omega)
theorem cb_take_ok (V : World) (hK : HK V) (hP : Pk V A m c L) (h6 : L.length ≤ 1000) (hg : ∀ x ∈ L, x.1.g.length ≤ 300) (h0 : chkP L = 0) (hp : PlaceR L pa k) : Calls Tryz.prog 15 #[.agg #[.slice A m c], .int .i64 pa] V fun e w' => ∃ A1 m1 c1 X, e = .returned (.tuple #[.agg #[.slice A1 m1 c1], .int .i64 0]) ∧ Pk w' A1 m1 c1 X ∧ X.map (·.1) = (L.map (·.1)).set k { (L.getD k nl0).1 with k := IntKind.i64.wrap ((L.getD k nl0).1.k + 1) } ∧ Below V.heap.size V w' :=
  (take_any A m c L pa V hK.k hP.po hP.len hP.cap (by have := hP.len; omega) hg).mono fun e w' ⟨hb, h⟩ => by
    rcases h with ⟨h1, _⟩ | ⟨_, h1, _⟩ | ⟨_, k', A2, c2, L2, hp', hk, hn, hN, rfl⟩
    · exact absurd h0 h1
    · exact absurd (place_nat hp).2.1 (place_no h1 k (place_nat hp).1)
    · obtain rfl := place_uniq hp' hp
      exact ⟨_, _, _, L2, rfl, .of (w := V) hN, hn, hb⟩
theorem cb_add_no (V : World) (hK : HK V) (hP : Pk V A1 m1 c1 X) (h6 : X.length ≤ 1000) (hg : ∀ x ∈ X, x.1.g.length ≤ 300) (hpa : I64 pa) {G : Option Addr} {gc : Nat} (hG : Ri V V.heap.size G g.length (gF g)) (hgo : ∀ q ∈ g, insO q) (hgl : g.length ≤ 300) (hgc : g.length ≤ gc)
    (h0 : chkP X = 0) (hE : ¬ freshE X pa g = 0) : Calls Tryz.prog 12 #[.agg #[.slice A1 m1 c1], .int .i64 pa, .slice G g.length gc] V fun e w' => e = .returned (.tuple #[.agg #[.slice none 0 0], .int .i64 0, .int .i64 (freshE X pa g)]) ∧ Below V.heap.size V w' :=
  (add_any A1 m1 c1 X pa hpa G gc g V hK hP.po hP.len hP.cap (by have := hP.len; omega) hg hG hgo (by omega) hgc).mono fun e w' ⟨hb, h⟩ => by
    rcases h with ⟨h1, _⟩ | ⟨_, _, rfl⟩ | ⟨_, h1, _⟩
    · exact absurd h0 h1
    · exact ⟨rfl, hb⟩
    · exact absurd h1 hE
theorem cb_add_ok (V : World) (hK : HK V) (hP : Pk V A1 m1 c1 X) (h6 : X.length ≤ 1000) (hg : ∀ x ∈ X, x.1.g.length ≤ 300) (hpa : I64 pa) {G : Option Addr} {gc : Nat} (hG : Ri V V.heap.size G g.length (gF g)) (hgo : ∀ q ∈ g, insO q) (hgl : g.length ≤ 300) (hgc : g.length ≤ gc)
    (h0 : chkP X = 0) (hE : freshE X pa g = 0) : Calls Tryz.prog 12 #[.agg #[.slice A1 m1 c1], .int .i64 pa, .slice G g.length gc] V fun e w' => ∃ A2 m2 c2 Y, e = .returned (.tuple #[.agg #[.slice A2 m2 c2], .int .i64 (freshN X pa g).i, .int .i64 0]) ∧ Pk w' A2 m2 c2 Y ∧ (∃ k : Nat, (freshN X pa g).i = (k : Nat) + 1 ∧ Y.map (·.1) = insM k (freshN X pa g) (X.map (·.1))) ∧ Below V.heap.size V w' :=
  (add_any A1 m1 c1 X pa hpa G gc g V hK hP.po hP.len hP.cap (by have := hP.len; omega) hg hG hgo (by omega) hgc).mono fun e w' ⟨hb, h⟩ => by
    rcases h with ⟨h1, _⟩ | ⟨_, h1, _⟩ | ⟨_, _, k, A2, c2, L2, hk, hkl, hn, hN, rfl⟩
    · exact absurd h0 h1
    · exact absurd hE h1
    · exact ⟨_, _, _, L2, rfl, .of (w := V) hN, ⟨k, hk, hn⟩, hb⟩
end
end Go.Proofs.YtelfdpcenplhjaaGreatDoor
