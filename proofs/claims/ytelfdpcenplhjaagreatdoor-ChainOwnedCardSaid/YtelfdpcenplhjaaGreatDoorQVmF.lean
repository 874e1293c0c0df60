/-
  vm.loaded, vm.further.
-/
import Derived.Test.YtelfdpcenplhjaaGreatDoorQPlBr
import Derived.Maps.Own
import Derived.Test.YtelfdpcenplhjaaGreatDoorQPlBq
import Derived.Lib.SmallJoins
import Derived.Test.YtelfdpcenplhjaaGreatDoorQHE
import Derived.Test.YtelfdpcenplhjaaGreatDoorQAluU
import Derived.Test.YtelfdpcenplhjaaGreatDoorQDatN
import Derived.Test.YtelfdpcenplhjaaGreatDoorQVmA
import Derived.Test.YtelfdpcenplhjaaGreatDoorQVmH
import Derived.Test.YtelfdpcenplhjaaGreatDoorQHH
import Derived.StillTailTactics
import Derived.Deep.RegionHeld3
import Derived.ChangeKeysEq
import Derived.Laws.BitsAllLaws
namespace Go.Proofs.YtelfdpcenplhjaaGreatDoor
open Go.RowKit Go.Shelf Go.Maps
set_option linter.unusedVariables false
set_option linter.unusedSimpArgs false
section
variable {L X : List Nl} {own : List Int} {who : Nat} {g : List Ins}
theorem rise_len : ∀ {L : List Nl} {l : Int}, riseB l L = true → l ≤ 24 → (L.length : Int) ≤ 24 - l
  | [], l, _, h => by simp; omega
  | x :: L, l, h, hl => by
    unfold riseB at h
    simp only [Bool.and_eq_true, Bool.not_eq_true', Bool.or_eq_false_iff, decide_eq_false_iff_not] at h
    have := rise_len h.2 (by omega)
    simp only [List.length_cons, Int.natCast_add]
    omega
theorem id_le24 : ∀ {L : List Nl} {l : Int}, riseB l L = true → ∀ x ∈ L, x.1.i ≤ 24
  | [], _, _, x, hx => by cases hx
  | y :: L, l, h, x, hx => by
    unfold riseB at h
    simp only [Bool.and_eq_true, Bool.not_eq_true', Bool.or_eq_false_iff, decide_eq_false_iff_not] at h
    rcases List.mem_cons.1 hx with rfl | hx
    · omega
    · exact id_le24 h.2 x hx
theorem chk_len24 (hc : chkP L = 0) : L.length ≤ 24 := by
  have := rise_len (chk_std hc).1 (by omega)
  omega
theorem chk_short (hc : chkP L = 0) : ∀ x ∈ L, x.1.g.length ≤ 300 := fun x hx => by
  have h := (chk_std hc).2 x hx
  unfold standV at h
  simp only [Bool.and_eq_true, beq_iff_eq] at h
  have := (may_chk (f := gF x.1.g) (n := x.1.g.length) h.1.1.1.2).hi
  omega
theorem hold_le (own : List Int) (id : Int) : holdN own id ≤ own.length := List.countP_le_length
theorem Inv.small (h : Inv L own 0) : ∀ x ∈ L, x.1.k ≤ own.length + 25 := fun x hx => by
  have h1 := h.cnt x hx
  have h2 := hold_le own x.1.i
  have h3 := kids_le L x.1.i
  have h4 := chk_len24 h.chk
  split at h1 <;> omega
theorem hold_pos {k : Nat} (hk : k < own.length) : 1 ≤ holdN own own[k] := by
  unfold holdN
  exact List.countP_pos_iff.2 ⟨own[k], List.getElem_mem hk, by simp⟩
theorem hold_none {id : Int} (h : id ∉ own) : holdN own id = 0 := by
  unfold holdN
  rw [List.countP_eq_zero]
  intro o ho
  simp
  rintro rfl
  exact h ho
theorem inv_bk (h : Inv L own 0) (hw : who < own.length) : ∀ x ∈ L, x.1.i = own[who] → (kidsN L x.1.i : Int) + 1 ≤ x.1.k := fun x hx e => by
  have h1 := h.cnt x hx
  have h0 := no_zero h.chk x hx
  have h2 := hold_pos hw
  rw [← e] at h2
  rw [if_neg (by omega)] at h1
  omega
theorem inv_add {Y : List Nl} {k : Nat} (h : Inv L own 0) (hw : who < own.length) (hE : freshE L own[who] g = 0) (hi : (freshN L own[who] g).i = (k : Nat) + 1) (hn : Y.map (·.1) = insM k (freshN L own[who] g) (L.map (·.1))) : Inv Y (own.set who (freshN L own[who] g).i) 0 := by
  have hc := chk_add h.chk hE hi hn (inv_bk h hw)
  obtain ⟨k', hf, h24, hall, hno, hp, hg, hz⟩ := fresh_full hE
  have hkk : k' = k := by rw [hf] at hi; simp only at hi; omega
  subst hkk
  have hnm : Y.map (·.1) = (insN k' ((freshN L own[who] g), loc0) L).map (·.1) := by rw [names_ins]; exact hn
  have hno' : ∀ x ∈ L, ¬ x.1.i = (freshN L own[who] g).i := by rw [hf]; exact hno
  have hn1 : (freshN L own[who] g).k = 1 := by rw [hf]
  have hnp : (freshN L own[who] g).p = own[who] := by rw [hf]
  have hi0 : ¬ (freshN L own[who] g).i = 0 := by rw [hf]; show ¬ ((k' : Int) + 1 = 0); omega
  generalize freshN L own[who] g = n at *
  have hown : n.i ∉ own := fun hm => by
    obtain ⟨x, hx, e⟩ := h.has _ hm hi0
    exact hno' x hx e
  have hne : ¬ own[who] = n.i := fun e => hown (e ▸ List.getElem_mem hw)
  have hI : Inv (insN k' (n, loc0) L) (own.set who n.i) 0 := by
    refine ⟨(chkP_names hnm).symm.trans hc, fun x hx => ?_, fun o ho h0 => ?_⟩
    · have hx' : x = (n, loc0) ∨ x ∈ L := by
        unfold insN at hx
        rcases List.mem_append.1 hx with h | h
        · exact .inr (List.mem_of_mem_take h)
        · rcases List.mem_cons.1 h with h | h
          · exact .inl h
          · exact .inr (List.mem_of_mem_drop h)
      rw [hold_set hw, kids_ins]
      rcases hx' with rfl | hx'
      · have hk0 : kidsN L n.i = 0 := by
          unfold kidsN
          rw [List.countP_eq_zero]
          intro y hy
          simp
          intro e
          rcases Classical.em (y.1.p = 0) with h1 | h1
          · omega
          · obtain ⟨z, hz, e2⟩ := parent_in h.chk hy h1
            exact hno' z hz (e2.trans e)
        show n.k = (holdN own n.i : Int) - (if own[who] = n.i then 1 else 0) + (if n.i = n.i then 1 else 0) + ((kidsN L n.i + if n.p = n.i then 1 else 0 : Nat) : Int) + if 0 = n.i then 1 else 0
        rw [hn1, hold_none hown, hk0, hnp, if_neg hne, if_neg hne, if_pos rfl, if_neg (fun e => hi0 e.symm)]
        rfl
      · have h1 := h.cnt x hx'
        have h2 := hno' x hx'
        have h3 := no_zero h.chk x hx'
        have e1 : (if n.i = x.1.i then (1 : Int) else 0) = 0 := if_neg fun e => h2 e.symm
        have e2 : (if (0 : Int) = x.1.i then (1 : Int) else 0) = 0 := if_neg (by omega)
        rw [e2] at h1
        rw [e1, e2, h1]
        show _ = (holdN own x.1.i : Int) - (if own[who] = x.1.i then 1 else 0) + 0 + ((kidsN L x.1.i + if n.p = x.1.i then 1 else 0 : Nat) : Int) + 0
        rw [hnp]
        split <;> omega
    · rcases List.mem_or_eq_of_mem_set ho with h1 | h1
      · obtain ⟨x, hx, e⟩ := h.has o h1 h0
        refine ⟨x, ?_, e⟩
        unfold insN
        rw [← List.take_append_drop k' L] at hx
        rcases List.mem_append.1 hx with h2 | h2
        · exact List.mem_append_left _ h2
        · exact List.mem_append_right _ (List.mem_cons_of_mem _ h2)
      · refine ⟨(n, loc0), ?_, h1.symm⟩
        unfold insN
        exact List.mem_append_right _ (by simp)
  exact hI.names hnm.symm
theorem inv_there (h : Inv L own 0) {o : Int} (ho : o ∈ own) (h0 : o ≠ 0) : ∃ k : Nat, PlaceR L o k := by
  rcases place_or L o with h1 | h1
  · exact h1
  · obtain ⟨x, hx, e⟩ := h.has o ho h0
    obtain ⟨j, hj, e2⟩ := List.getElem_of_mem hx
    have := place_no h1 j hj
    rw [show L.getD j nl0 = L[j] by simp [List.getD, hj], e2] at this
    exact absurd e this
theorem inv_take {k : Nat} {o : Int} (h : Inv L own 0) (hl : own.length ≤ 8) (hw : who < own.length) (hz : own[who] = 0) (ho : o ∈ own) (h0 : o ≠ 0) (hp : PlaceR L o k)
    (hX : X.map (·.1) = (L.map (·.1)).set k { (L.getD k nl0).1 with k := IntKind.i64.wrap ((L.getD k nl0).1.k + 1) }) : Inv X (own.set who o) 0 := by
  have hk := (place_nat hp).1
  have hki := (place_nat hp).2.1
  have h2 := h.small _ (getD_mem hk)
  obtain ⟨h1, hkid⟩ := kc h.chk hk
  have hn := tk_names hX h1 (by omega)
  have hI : Inv (L.set k (cntN (L.getD k nl0) ((L.getD k nl0).1.k + 1))) (own.set who o) 0 := by
    refine ⟨chk_tk h.chk hk, fun x hx => ?_, fun o' ho' h0' => ?_⟩
    · rw [hold_set hw, ← kids_core (core_set hk _), hz]
      obtain ⟨j, hj, e⟩ := List.getElem_of_mem hx
      have hjl : j < L.length := by simpa using hj
      rw [List.getElem_set] at e
      by_cases hjk : k = j
      · rw [if_pos hjk] at e
        subst e
        have h3 := h.cnt _ (getD_mem hk)
        have h4 := no_zero h.chk _ (getD_mem hk)
        rw [if_neg (by omega)] at h3
        show (L.getD k nl0).1.k + 1 = (holdN own (L.getD k nl0).1.i : Int) - (if 0 = (L.getD k nl0).1.i then 1 else 0) + (if o = (L.getD k nl0).1.i then 1 else 0) + kidsN L (L.getD k nl0).1.i + if 0 = (L.getD k nl0).1.i then 1 else 0
        rw [if_neg (by omega), if_pos hki.symm]
        omega
      · rw [if_neg hjk] at e
        have hx' : x ∈ L := e ▸ List.getElem_mem hjl
        have h3 := h.cnt x hx'
        have h4 := no_zero h.chk x hx'
        rw [if_neg (by omega)] at h3
        have hne : ¬ o = x.1.i := fun e2 => by
          have h5 := mem_id h.chk (getD_mem hk) hx' (hki.trans e2)
          have hr := (chk_std h.chk).1
          have hkx : L[k].1.i = x.1.i := by rw [← h5, show L.getD k nl0 = L[k] by simp [List.getD, hk]]
          rcases Nat.lt_trichotomy j k with h6 | h6 | h6
          · have h7 := rise_lt hr j k h6 hk
            rw [e] at h7
            omega
          · exact hjk h6.symm
          · have h7 := rise_lt hr k j h6 hjl
            rw [e] at h7
            omega
        rw [if_neg (by omega), if_neg hne, h3]
        omega
    · have key : ∀ y ∈ L, ∃ z ∈ L.set k (cntN (L.getD k nl0) ((L.getD k nl0).1.k + 1)), z.1.i = y.1.i := fun y hy => by
        obtain ⟨j, hj, e⟩ := List.getElem_of_mem hy
        by_cases hjk : k = j
        · refine ⟨cntN (L.getD k nl0) ((L.getD k nl0).1.k + 1), List.mem_iff_getElem.2 ⟨k, by simpa using hk, by simp⟩, ?_⟩
          show (L.getD k nl0).1.i = y.1.i
          rw [← e, show L.getD k nl0 = L[k] by simp [List.getD, hk]]
          subst hjk
          rfl
        · exact ⟨y, List.mem_iff_getElem.2 ⟨j, by simpa using hj, by rw [List.getElem_set, if_neg hjk, e]⟩, rfl⟩
      have ho2 : o' ∈ own := by
        rcases List.mem_or_eq_of_mem_set ho' with h3 | h3
        · exact h3
        · rw [h3]; exact ho
      obtain ⟨y, hy, e⟩ := h.has o' ho2 h0'
      obtain ⟨z, hz', e2⟩ := key y hy
      exact ⟨z, hz', e2.trans e⟩
  exact hI.names hn.symm
theorem inv_give (h : Inv L own 0) (hl : own.length ≤ 8) (hw : who < own.length) (h0 : own[who] ≠ 0) : giveE L own[who] = 0 ∧ ∀ (L1 U L2 : List Nl), L1.map (·.1) = L.map (·.1) → Up L1 own[who] U → GvL L1 U L2 → Inv L2 (own.set who 0) 0 ∧ ∀ id ∈ (goneU U).map (fun x => x.1.i), (idR L2 id).2 = false := by
  constructor
  · obtain ⟨x, hx, e⟩ := h.has _ (List.getElem_mem hw) h0
    have h1 := inv_bk h hw x hx e
    have h2 := rise_idR (chk_std h.chk).1 x hx
    rw [e] at h1 h2
    unfold giveE
    rw [h2, if_pos]
    refine ⟨rfl, fun e2 => ?_⟩
    have e3 : x.1.k = (kidsN L own[who] : Int) := e2
    omega
  · intro L1 U L2 hn hU hG
    have hI : Inv L1 (own.set who 0) own[who] := by
      refine (?_ : Inv L (own.set who 0) own[who]).names hn.symm
      refine ⟨h.chk, fun x hx => ?_, fun o ho h0' => ?_⟩
      · have h1 := h.cnt x hx
        have h3 := no_zero h.chk x hx
        rw [if_neg (by omega)] at h1
        rw [hold_set hw, h1, if_neg (by omega : ¬ (0 : Int) = x.1.i)]
        split <;> omega
      · rcases List.mem_or_eq_of_mem_set ho with h1 | h1
        · exact h.has o h1 h0'
        · exact absurd h1 h0'
    have hsm : ∀ x ∈ L1, x.1.k ≤ 1000000 := fun x hx => by
      obtain ⟨y, hy, e⟩ := mem_of_names hn hx
      have := h.small y hy
      rw [← e]
      omega
    refine ⟨give_inv hI hsm hU hG, fun id hid => ?_⟩
    have hleft : ∀ x ∈ leftN L1 U, ¬ x.1.i = id := fun x hx e => by
      unfold leftN at hx
      rw [List.mem_filter] at hx
      have h2 := hx.2
      rw [e] at h2
      simp only [Bool.not_eq_true', List.contains_eq_mem] at h2
      exact absurd hid (by simpa using h2)
    have hL2 : ∀ x ∈ L2, ¬ x.1.i = id := by
      rcases hG with ⟨_, rfl⟩ | ⟨k, hp, hlt, rfl⟩
      · exact hleft
      · intro x hx
        rcases List.mem_or_eq_of_mem_set hx with h1 | h1
        · exact hleft x h1
        · rw [h1]
          show ¬ ((leftN L1 U).getD k nl0).1.i = id
          exact hleft _ (getD_mem hlt)
    rw [idR_noneQ hL2]
def cntG (own : List Int) (L : List Nl) (id : Int) : Nat := if id = 0 then 0 else holdN own id + kidsN L id
theorem Inv.cnt2 (h : Inv L own 0) : ∀ x ∈ L, (cntG own L x.1.i : Int) = x.1.k := fun x hx => by
  have h1 := h.cnt x hx
  have h3 := no_zero h.chk x hx
  rw [if_neg (by omega)] at h1
  unfold cntG
  rw [if_neg (by omega), h1]
  omega
theorem Inv.keys (h : Inv L own 0) (id : Int) : cntG own L id ≠ 0 ↔ id ∈ L.map (fun x => x.1.i) := by
  constructor
  · intro hc
    unfold cntG at hc
    split at hc
    · exact absurd rfl hc
    · rename_i h0
      by_cases h1 : holdN own id = 0
      · have h2 : 0 < kidsN L id := by omega
        unfold kidsN at h2
        obtain ⟨x, hx, e⟩ := List.countP_pos_iff.1 h2
        have e' : x.1.p = id := by simpa using e
        obtain ⟨y, hy, e2⟩ := parent_in h.chk hx (by rw [e']; exact h0)
        exact List.mem_map.2 ⟨y, hy, e2.trans e'⟩
      · have h2 : 0 < holdN own id := by omega
        unfold holdN at h2
        obtain ⟨o, ho, e⟩ := List.countP_pos_iff.1 h2
        have e' : o = id := by simpa using e
        obtain ⟨y, hy, e2⟩ := h.has o ho (by rw [e']; exact h0)
        exact List.mem_map.2 ⟨y, hy, e2.trans e'⟩
  · intro hm
    obtain ⟨x, hx, rfl⟩ := List.mem_map.1 hm
    have h1 := h.cnt2 x hx
    have h2 := (stand_k ((chk_std h.chk).2 x hx)).1
    omega
theorem ids_nodup (hc : chkP L = 0) : (L.map (fun x => x.1.i)).Nodup := by
  have key : ∀ {L : List Nl} {l : Int}, riseB l L = true → (L.map (fun x => x.1.i)).Nodup := by
    intro L
    induction L with
    | nil => intro l _; simp
    | cons x L ih =>
      intro l h
      unfold riseB at h
      simp only [Bool.and_eq_true] at h
      rw [List.map_cons, List.nodup_cons]
      refine ⟨fun hm => ?_, ih h.2⟩
      obtain ⟨y, hy, e⟩ := List.mem_map.1 hm
      have := rise_all h.2 y hy
      omega
  exact key (chk_std hc).1
end
structure TabN (D : DataW Unit) (g : Int → Nat) (ks : List Int) : Prop where
  tidy : Tidy D
  at_ : ∀ p : Int, D.atKey (.int .i64 p) (.lit (.int .i64 0)) = .lit (.int .i64 ((g p : Nat) : Int))
  has : ∀ p : Int, Maps.has D (.int .i64 p) = ks.contains p
  pos : ∀ p : Int, p ∈ ks ↔ g p ≠ 0
  nodup : ks.Nodup
  size : Maps.size D = ks.length
theorem TabN.empty : TabN (.map []) (fun _ => 0) [] := ⟨tidy_empty, fun _ => rfl, fun _ => rfl, fun _ => by simp, by simp, rfl⟩
theorem keyN_ne {p x : Int} (h : x ≠ p) : (Lit.int .i64 x) ≠ .int .i64 p := by
  intro e
  injection e with _ e
  exact h e
theorem TabN.put {D : DataW Unit} {g : Int → Nat} {ks : List Int} (h : TabN D g ks) (p : Int) : TabN (D.put (.int .i64 p) (.lit (.int .i64 ((g p : Nat) + 1 : Int)))) (fun x => if x = p then g p + 1 else g x) (if p ∈ ks then ks else p :: ks) := by
  refine ⟨h.tidy.put (show WideAt.IsKeyLit (.int .i64 p) from trivial) _, fun x => ?_, fun x => ?_, fun x => ?_, ?_, ?_⟩
  · by_cases hx : x = p
    · subst hx
      simp only [if_pos]
      rw [atKey_put_same h.tidy.isMap (show WideAt.IsKeyLit (.int .i64 x) from trivial)]
      simp
    · rw [if_neg hx, atKey_put_other (keyN_ne hx)]
      exact h.at_ x
  · by_cases hx : x = p
    · subst hx
      rw [has_put_same h.tidy.isMap (show WideAt.IsKeyLit (.int .i64 x) from trivial)]
      split <;> simp [*]
    · rw [has_put_other (keyN_ne hx), h.has x]
      split
      · rfl
      · rw [List.contains_cons]
        simp [hx]
  · by_cases hx : x = p
    · subst hx
      simp only [if_pos]
      split <;> simp [*]
    · rw [if_neg hx, ← h.pos x]
      split
      · rfl
      · simp [hx]
  · split
    · exact h.nodup
    · rename_i hp
      rw [List.nodup_cons]
      exact ⟨hp, h.nodup⟩
  · rw [size_put h.tidy, h.has p]
    by_cases hp : p ∈ ks
    · rw [if_pos hp, if_pos (by simpa using hp), h.size]
    · rw [if_neg hp, if_neg (by simpa using hp), h.size]
      rfl
theorem nodup_len : ∀ {l m : List Int}, l.Nodup → (∀ x ∈ l, x ∈ m) → l.length ≤ m.length
  | [], _, _, _ => Nat.zero_le _
  | x :: l, m, hl, h => by
    rw [List.nodup_cons] at hl
    have hx : x ∈ m := h x (by simp)
    have h1 : ∀ y ∈ l, y ∈ m.erase x := fun y hy => by
      have hne : y ≠ x := fun e => hl.1 (e ▸ hy)
      exact (List.mem_erase_of_ne hne).2 (h y (by simp [hy]))
    have h2 := nodup_len hl.2 h1
    rw [List.length_erase_of_mem hx] at h2
    have h3 : 0 < m.length := List.length_pos_of_mem hx
    simp only [List.length_cons]
    omega
theorem TabN.count {D : DataW Unit} {own : List Int} {L : List Nl} {ks : List Int} (h : TabN D (cntG own L) ks) (hI : Inv L own 0) : Maps.size D = L.length := by
  rw [h.size]
  have h1 : ∀ x, x ∈ ks ↔ x ∈ L.map (fun x => x.1.i) := fun x => (h.pos x).trans (hI.keys x)
  have h2 := nodup_len h.nodup fun x hx => (h1 x).1 hx
  have h3 := nodup_len (ids_nodup hI.chk) fun x hx => (h1 x).2 hx
  simp only [List.length_map] at h2 h3
  omega
theorem hold_take {own : List Int} {j : Nat} (hj : j < own.length) (id : Int) : holdN (own.take (j + 1)) id = holdN (own.take j) id + if own[j] = id then 1 else 0 := by
  unfold holdN
  rw [List.take_succ_eq_append_getElem hj, List.countP_append]
  simp [List.countP_cons]
theorem kids_take {L : List Nl} {j : Nat} (hj : j < L.length) (id : Int) : kidsN (L.take (j + 1)) id = kidsN (L.take j) id + if L[j].1.p = id then 1 else 0 := by
  unfold kidsN
  rw [List.take_succ_eq_append_getElem hj, List.countP_append]
  simp [List.countP_cons]
theorem cntG_own {own : List Int} {j : Nat} (hj : j < own.length) (h0 : own[j] ≠ 0) : (fun x => if x = own[j] then cntG (own.take j) [] own[j] + 1 else cntG (own.take j) [] x) = cntG (own.take (j + 1)) [] := by
  funext x
  unfold cntG
  rw [hold_take hj]
  by_cases hx : x = own[j]
  · subst hx
    rw [if_pos rfl, if_neg h0, if_neg h0, if_pos rfl]
    omega
  · rw [if_neg hx]
    by_cases h1 : x = 0
    · rw [if_pos h1, if_pos h1]
    · rw [if_neg h1, if_neg h1, if_neg (fun e => hx e.symm)]
      rfl
theorem cntG_own0 {own : List Int} {j : Nat} (hj : j < own.length) (h0 : own[j] = 0) : cntG (own.take (j + 1)) [] = cntG (own.take j) [] := by
  funext x
  unfold cntG
  rw [hold_take hj]
  by_cases h1 : x = 0
  · rw [if_pos h1, if_pos h1]
  · rw [if_neg h1, if_neg h1, if_neg (fun e => h1 (e.symm.trans h0))]
    rfl
theorem cntG_kid {own : List Int} {L : List Nl} {j : Nat} (hj : j < L.length) (h0 : L[j].1.p ≠ 0) : (fun x => if x = L[j].1.p then cntG own (L.take j) L[j].1.p + 1 else cntG own (L.take j) x) = cntG own (L.take (j + 1)) := by
  funext x
  unfold cntG
  rw [kids_take hj]
  by_cases hx : x = L[j].1.p
  · subst hx
    rw [if_pos rfl, if_neg h0, if_neg h0, if_pos rfl]
    omega
  · rw [if_neg hx]
    by_cases h1 : x = 0
    · rw [if_pos h1, if_pos h1]
    · rw [if_neg h1, if_neg h1, if_neg (fun e => hx e.symm)]
      rfl
theorem cntG_kid0 {own : List Int} {L : List Nl} {j : Nat} (hj : j < L.length) (h0 : L[j].1.p = 0) : cntG own (L.take (j + 1)) = cntG own (L.take j) := by
  funext x
  unfold cntG
  rw [kids_take hj]
  by_cases h1 : x = 0
  · rw [if_pos h1, if_pos h1]
  · rw [if_neg h1, if_neg h1, if_neg (fun e => h1 (e.symm.trans h0))]
    rfl
end Go.Proofs.YtelfdpcenplhjaaGreatDoor
namespace Go.Proofs.YtelfdpcenplhjaaGreatDoor
open Go.RowKit Go.Shelf Go.ChangeShapes
set_option linter.unusedVariables false
set_option linter.unusedSimpArgs false
structure Ac where
  k : Int
  w : Int
  o : Int
  g : List Ins
abbrev Al := Ac × Loc
def al0 : Al := (⟨0, 0, 0, []⟩, loc0)
def acC (x : Al) : Array Value := #[.int .i64 x.1.k, .int .i64 x.1.w, .int .i64 x.1.o, .slice x.2.1 x.1.g.length x.2.2]
theorem ac_size (x : Al) : (acC x).size = 4 := rfl
theorem ac_inf (x : Al) : (Tryz.prog.info? 58).map (·.size) = some (acC x).size := by rw [ac_size]; kernel_rfl
theorem ac_infL (x : Al) : (Tryz.prog.info? 58).map (·.size) = some (acC x).toList.length := by rw [Array.length_toList]; exact ac_inf x
theorem ac_one (x : Al) : (acC x).all (·.oneCell') = true := by simp [acC, Value.oneCell']
structure Ar (w : World) (B : Nat) (x : Al) : Prop where
  ri : Ri w B x.2.1 x.1.g.length (gF x.1.g)
  le : x.1.g.length ≤ x.2.2
theorem Ar.below {w w' : World} {B B' : Nat} {x : Al} (h : Ar w B x) (hb : Below B' w w') (hB : B ≤ B') : Ar w' B x := ⟨h.ri.below hb hB, h.le⟩
theorem Ar.more {w : World} {B B' : Nat} {x : Al} (h : Ar w B x) (hB : B ≤ B') : Ar w B' x := ⟨h.ri.more hB, h.le⟩
def Aa (w : World) (B : Nat) (A : Option Addr) (L : List Al) : Prop := ∀ k, k < L.length → ∃ b off, A = some ⟨b, off, none⟩ ∧ b < B ∧ w.rangeAt b (off + k * 4) (acC (L.getD k al0)).toList
theorem Aa.below {w w' : World} {B B' : Nat} {A : Option Addr} {L : List Al} (h : Aa w B A L) (hb : Below B' w w') (hB : B ≤ B') : Aa w' B A L := fun k hk => by
  obtain ⟨b, off, e, h1, h2⟩ := h k hk
  exact ⟨b, off, e, h1, range_below h2 hb (Nat.lt_of_lt_of_le h1 hB)⟩
section
variable {H : Type} {enc : TypeId × Value → H} {w : World} {base : Nat} {spare : Nat → Bool} {held : Bool} {fuel : Nat} {x : DataW H × List MemPlace}
set_option maxRecDepth 100000 in
theorem acts9_of {a : Option Addr} {l c : Nat} (h : DataW.trod enc Tryz.prog w base spare held fuel 55 [.slice a l c] = some x) : ∃ L, Aa w w.heap.size a L ∧ (∀ x ∈ L, Ar w w.heap.size x) ∧ l = L.length ∧ l ≤ maxLen := by
  rcases Go.Deep.open_slice Tryz.underlying55 h with ⟨hcs, _⟩ | ⟨p, l', c', m, n, D, Pl, hcs, _, hl, hm, hmm, _, hel⟩
  · simp at hcs
    obtain ⟨rfl, rfl, rfl⟩ := hcs
    exact ⟨[], fun k hk => absurd hk (by simp), fun x hx => (by cases hx), rfl, by simp [maxLen]⟩
  · simp at hcs
    obtain ⟨rfl, rfl, rfl⟩ := hcs
    have hlm : l ≤ m := by rw [hmm]; split <;> omega
    have hc4 : Tryz.prog.cellsOf 58 = 4 := by kernel_rfl
    have hci : Tryz.prog.cellsOf 3 = 1 := by kernel_rfl
    have hcs : Tryz.prog.cellsOf 25 = 1 := by kernel_rfl
    rw [hc4] at hel
    have each : ∀ i, i < l → ∃ q : Al, (∀ j v, (acC q).toList[j]? = some v → w.cell? ((p.add (i * 4)).add j) = some v) ∧ Ar w w.heap.size q := by
      intro i hi
      obtain ⟨cs', h1, h2⟩ := hel i (by omega)
      obtain ⟨_, hlen, hcell⟩ := World.cells?_some h1
      obtain ⟨xs, n', _, _, _, hxl, hf⟩ := DataW.trod_struct Tryz.underlying58 h2
      match cs', hlen, xs, hxl with
      | [v0, v1, v2, v3], _, [y0, y1, y2, y3], _ =>
        have t0 := hf 0 _ rfl
        have t1 := hf 1 _ rfl
        have t2 := hf 2 _ rfl
        have t3 := hf 3 _ rfl
        simp [hci] at t0 t1 t2
        simp [hcs] at t3
        obtain ⟨q0, e0, _, f0⟩ := DataW.trod_int Tryz.underlying3 t0
        obtain ⟨q1, e1, _, f1⟩ := DataW.trod_int Tryz.underlying3 t1
        obtain ⟨q2, e2, _, f2⟩ := DataW.trod_int Tryz.underlying3 t2
        obtain ⟨pa, pc, g, e3, hr, hle⟩ := prog_of t3
        simp only [List.cons.injEq, and_true] at e0 e1 e2 e3
        subst e0 e1 e2 e3
        refine ⟨(⟨q0, q1, q2, g⟩, (pa, pc)), fun j v hv => ?_, hr, hle⟩
        have hj : j < 4 := by
          rcases Nat.lt_or_ge j 4 with h | h
          · exact h
          · rw [List.getElem?_eq_none (by rw [Array.length_toList, ac_size]; exact h)] at hv; cases hv
        have := hcell j (by omega)
        rw [this]
        exact hv
    haveI : Inhabited Al := ⟨al0⟩
    obtain ⟨q, hq⟩ := Go.Deep.choose_lt each
    refine ⟨(List.range l).map q, fun k hk => ?_, fun y hy => ?_, by simp, by omega⟩
    · have hkl : k < l := by simpa using hk
      have e0 : ((List.range l).map q).getD k al0 = q k := by simp [List.getD, hkl]
      rw [e0]
      have z : ∃ v0, w.cell? (p.add 0) = some v0 := ⟨_, by
        have := (hq 0 (by omega)).1 0 (.int .i64 (q 0).1.k) rfl
        rw [Go.Deep.add_add] at this
        simpa using this⟩
      have a0 := (hq k hkl).1 0 (.int .i64 (q k).1.k) rfl
      rw [Go.Deep.add_add] at a0
      obtain ⟨ea, hb, _⟩ := add_none a0 z
      refine ⟨p.block, p.off, congrArg some ea, hb, fun j v hv => ?_⟩
      have := (hq k hkl).1 j v hv
      rw [Go.Deep.add_add] at this
      have h3 := (add_none this z).2.2
      rwa [← Nat.add_assoc] at h3
    · obtain ⟨k, hk, rfl⟩ := List.mem_map.1 hy
      exact (hq k (by simpa using hk)).2
end
end Go.Proofs.YtelfdpcenplhjaaGreatDoor
namespace Go.Proofs.YtelfdpcenplhjaaGreatDoor
open Go.RowKit Go.Shelf Go.Maps
set_option linter.unusedVariables false
set_option linter.unusedSimpArgs false
section
variable {V V' : World} {g : Nat}
structure Bare (V : World) (g : Nat) : Prop where
  ins : ∀ j v, V.cell? ⟨g, j, none⟩ ≠ some (.int .u16 v)
  nd : ∀ j a s n c, ¬ (V.cell? ⟨g, j, none⟩ = some (.int .i64 a) ∧ V.cell? ⟨g, j + 2, none⟩ = some (.slice s n c))
structure Turn (g : Nat) (V V' : World) : Prop where
  size : V.heap.size ≤ V'.heap.size
  block : ∀ j, j < V.heap.size → j ≠ g → V'.heap[j]? = V.heap[j]?
theorem Turn.cell (h : Turn g V V') {b o : Nat} (hb : b < V.heap.size) (hne : b ≠ g) : V'.cell? ⟨b, o, none⟩ = V.cell? ⟨b, o, none⟩ := by
  simp only [World.cell?, h.block b hb hne]
theorem Turn.but (h : But g V V') : Turn g V V' := ⟨h.size, fun j hj hn => h.block j hj hn⟩
theorem Turn.grown (h : V.grownBy V' (some g)) : Turn g V V' := ⟨h.size, fun j hj hn => h.block j hj (fun e => hn (Option.some.inj e))⟩
theorem Bare.of_blk {cs : Array Value} {t : TypeId} (k : Blk V g cs t) (h1 : ∀ (j : Nat) (v : Int), cs[j]? ≠ some (Value.int .u16 v)) (h2 : ∀ (j : Nat) (a : Int) (s : Option Addr) (n c : Nat), ¬ (cs[j]? = some (Value.int .i64 a) ∧ cs[j + 2]? = some (Value.slice s n c))) : Bare V g :=
  ⟨fun j v => by rw [k.cell]; exact h1 j v, fun j a s n c => by rw [k.cell, k.cell]; exact h2 j a s n c⟩
theorem bare_pool {A : Option Addr} {m c : Nat} (k : Blk V g #[.slice A m c] 24) : Bare V g :=
  .of_blk k (fun j v h => by rcases j with _ | j <;> simp at h) (fun j a s n c ⟨h, _⟩ => by rcases j with _ | j <;> simp at h)
theorem Ri.turn {n : Nat} {A : Option Addr} {f : Nat → Ins} (h : Ri V V.heap.size A n f) (t : Turn g V V') (hg : Bare V g) : Ri V' V'.heap.size A n f := fun k hk => by
  obtain ⟨b, off, e, h1, ⟨c0, c1, c2, c3⟩, ho⟩ := h k hk
  have hne : b ≠ g := by rintro rfl; exact hg.ins _ _ c0
  exact ⟨b, off, e, Nat.lt_of_lt_of_le h1 t.size, ⟨(t.cell h1 hne).trans c0, (t.cell h1 hne).trans c1, (t.cell h1 hne).trans c2, (t.cell h1 hne).trans c3⟩, ho⟩
theorem Nr.turn {x : Nl} (h : Nr V V.heap.size x) (t : Turn g V V') (hg : Bare V g) : Nr V' V'.heap.size x := ⟨h.ok, h.ri.turn t hg, h.le⟩
theorem Ar.turn {x : Al} (h : Ar V V.heap.size x) (t : Turn g V V') (hg : Bare V g) : Ar V' V'.heap.size x := ⟨h.ri.turn t hg, h.le⟩
theorem Pk.turn {A : Option Addr} {m c : Nat} {L : List Nl} (h : Pk V A m c L) (t : Turn g V V') (hg : Bare V g) : Pk V' A m c L := by
  refine ⟨⟨fun k hk => ?_, fun x hx => (h.po.nr x hx).turn t hg⟩, h.len, h.cap⟩
  obtain ⟨b, off, e, h1, h2⟩ := h.po.at_ k hk
  have hne : b ≠ g := by
    rintro rfl
    exact hg.nd (off + k * 7) _ _ _ _ ⟨h2 0 _ rfl, h2 2 _ rfl⟩
  exact ⟨b, off, e, Nat.lt_of_lt_of_le h1 t.size, fun j v hv => (t.cell h1 hne).trans (h2 j v hv)⟩
theorem Turn.blk {g' : Nat} {cs : Array Value} {t : TypeId} (h : Turn g V V') (k : Blk V g' cs t) (hn : g' ≠ g) : Blk V' g' cs t := ⟨(h.block g' k.lt hn).trans k.blk⟩
theorem bare_map {es : Array MapEntry} {clock : Nat} (h : V.heap[g]? = some (.map es clock)) : Bare V g :=
  ⟨fun j v => by simp [World.cell?, h], fun j a s n c => by simp [World.cell?, h]⟩
end
end Go.Proofs.YtelfdpcenplhjaaGreatDoor
namespace Go.Proofs.YtelfdpcenplhjaaGreatDoor
open Go.RowKit
set_option linter.unusedVariables false
def pairV (f : Nat → Ins) (d : Int → Int) : Nat → VmS → List (VmS × Int)
  | 0, _ => []
  | n + 1, s => match stepV alI hdI (f s.pc) d s with
    | (some r, _) => [(s, r)]
    | (none, s') => (s, 0) :: pairV f d n s'
section
variable {f : Nat → Ins} {d : Int → Int}
theorem pair_len : ∀ (k : Nat) (s : VmS), (pairV f d k s).length ≤ k := by
  intro k
  induction k with
  | zero => intro s; simp [pairV]
  | succ k ih =>
    intro s
    simp only [pairV]
    cases stepV alI hdI (f s.pc) d s with
    | mk r s' =>
      cases r with
      | some r => simp
      | none => have := ih s'; simp; omega
def lastV (l : List (VmS × Int)) : Int := match l.getLast? with | some x => x.2 | none => 0
theorem last_snoc (l : List (VmS × Int)) (x : VmS × Int) : lastV (l ++ [x]) = x.2 := by simp [lastV]
variable {n : Nat}
theorem step_fwd {s s' : VmS} (hM : May f n) (ho : ∀ i, i < n → insO (f i)) (hs : s.pc < n) (h : stepV alI hdI (f s.pc) d s = (none, s')) : s.pc < s'.pc ∧ s'.pc < n := by
  have hn := hM.hi
  obtain ⟨h1, _, h4, _⟩ := oneL_ok (hM.one s.pc hs)
  exact (may_goes hM ho).ok s.pc hs _ (step_next h (by omega) (form_row h1) (fun e => by have := h4 e; omega))
theorem pair_fuel (hM : May f n) (ho : ∀ i, i < n → insO (f i)) : ∀ (k k' : Nat) (s : VmS), s.pc < n → n - s.pc ≤ k → n - s.pc ≤ k' → pairV f d k s = pairV f d k' s := by
  intro k
  induction k with
  | zero => intro k' s hs hk; omega
  | succ k ih =>
    intro k' s hs hk hk'
    obtain ⟨m, rfl⟩ : ∃ m, k' = m + 1 := ⟨k' - 1, by omega⟩
    simp only [pairV]
    cases hst : stepV alI hdI (f s.pc) d s with
    | mk r s' =>
      cases r with
      | some r => rfl
      | none =>
        obtain ⟨h1, h2⟩ := step_fwd hM ho hs hst
        simp only
        rw [ih m s' h2 (by omega) (by omega)]
def restV (f : Nat → Ins) (d : Int → Int) (n : Nat) (s : VmS) : List (VmS × Int) := pairV f d (n - s.pc) s
theorem rest_go (hM : May f n) (ho : ∀ i, i < n → insO (f i)) {s s' : VmS} (hs : s.pc < n) (h : stepV alI hdI (f s.pc) d s = (none, s')) : restV f d n s = (s, 0) :: restV f d n s' := by
  obtain ⟨h1, h2⟩ := step_fwd hM ho hs h
  obtain ⟨m, hm⟩ : ∃ m, n - s.pc = m + 1 := ⟨n - s.pc - 1, by omega⟩
  unfold restV
  rw [hm]
  simp only [pairV, h]
  rw [pair_fuel hM ho m (n - s'.pc) s' h2 (by omega) (by omega)]
theorem rest_ret {s s' : VmS} {r : Int} (hs : s.pc < n) (h : stepV alI hdI (f s.pc) d s = (some r, s')) : restV f d n s = [(s, r)] := by
  obtain ⟨m, hm⟩ : ∃ m, n - s.pc = m + 1 := ⟨n - s.pc - 1, by omega⟩
  unfold restV
  rw [hm]
  simp only [pairV, h]
theorem rest_len (s : VmS) : (restV f d n s).length ≤ n := by have := pair_len (f := f) (d := d) (n - s.pc) s; unfold restV; omega
def allV (f : Nat → Ins) (d : Int → Int) (n : Nat) : List (VmS × Int) := restV f d n vm0
theorem all_len : (allV f d n).length ≤ n := rest_len vm0
def retV (f : Nat → Ins) (d : Int → Int) (n : Nat) : Int := lastV (allV f d n)
end
structure VmOk (s : VmS) : Prop where
  a : U32 s.a
  x : U32 s.x
  len : s.mem.length = 16
  mem : U32s s.mem
theorem vm0_ok : VmOk vm0 := ⟨by unfold U32 vm0; simp, by unfold U32 vm0; simp, by simp [vm0], fun z hz => by
  simp only [vm0, List.mem_replicate] at hz
  rw [hz.2]
  unfold U32; omega⟩
theorem set_U32 {l : List Int} (h : U32s l) (k : Nat) {v : Int} (hv : U32 v) : U32s (l.set k v) := by
  intro z hz
  rcases List.mem_or_eq_of_mem_set hz with h1 | h1
  · exact h z h1
  · rw [h1]; exact hv
theorem eff_ok {q : Ins} {d : Int → Int} {s : VmS} {e : Int × Int × List Int} (hq : insO q) (hd : ∀ o, U32 (d o)) (hs : VmOk s) (h : effV alI q d s = some e) : U32 e.1 ∧ U32 e.2.1 ∧ e.2.2.length = 16 ∧ U32s e.2.2 := by
  have hk : U32 q.2.2.2 := ⟨hq.k0, hq.k1⟩
  have h64 : U32 64 := by unfold U32; omega
  have hm : ∀ n, U32 (s.mem.getD n 0) := fun n => hs.mem.at_ n
  have hl := hs.len
  have hM := hs.mem
  have ha := hs.a
  have hx := hs.x
  unfold effV at h
  by_cases c32 : q.1 = 32
  · rw [if_pos c32] at h; injection h with h; subst h; exact ⟨hd _, hx, hl, hM⟩
  rw [if_neg c32] at h
  by_cases c128 : q.1 = 128
  · rw [if_pos c128] at h; injection h with h; subst h; exact ⟨h64, hx, hl, hM⟩
  rw [if_neg c128] at h
  by_cases c129 : q.1 = 129
  · rw [if_pos c129] at h; injection h with h; subst h; exact ⟨ha, h64, hl, hM⟩
  rw [if_neg c129] at h
  by_cases c0 : q.1 = 0
  · rw [if_pos c0] at h; injection h with h; subst h; exact ⟨hk, hx, hl, hM⟩
  rw [if_neg c0] at h
  by_cases c1 : q.1 = 1
  · rw [if_pos c1] at h; injection h with h; subst h; exact ⟨ha, hk, hl, hM⟩
  rw [if_neg c1] at h
  by_cases c96 : q.1 = 96
  · rw [if_pos c96] at h; injection h with h; subst h; exact ⟨hm _, hx, hl, hM⟩
  rw [if_neg c96] at h
  by_cases c97 : q.1 = 97
  · rw [if_pos c97] at h; injection h with h; subst h; exact ⟨ha, hm _, hl, hM⟩
  rw [if_neg c97] at h
  by_cases c2 : q.1 = 2
  · rw [if_pos c2] at h; injection h with h; subst h; exact ⟨ha, hx, by simpa using hl, set_U32 hM _ ha⟩
  rw [if_neg c2] at h
  by_cases c3 : q.1 = 3
  · rw [if_pos c3] at h; injection h with h; subst h; exact ⟨ha, hx, by simpa using hl, set_U32 hM _ hx⟩
  rw [if_neg c3] at h
  by_cases c7 : q.1 = 7
  · rw [if_pos c7] at h; injection h with h; subst h; exact ⟨ha, ha, hl, hM⟩
  rw [if_neg c7] at h
  by_cases c135 : q.1 = 135
  · rw [if_pos c135] at h; injection h with h; subst h; exact ⟨hx, hx, hl, hM⟩
  rw [if_neg c135] at h
  rw [Option.map_eq_some_iff] at h
  obtain ⟨v, hv, rfl⟩ := h
  exact ⟨al_U32 ha (by by_cases hc : q.1 % 16 = 12; rw [if_pos hc]; exact hx; rw [if_neg hc]; exact hk) hv, hx, hl, hM⟩
theorem step_ok {q : Ins} {d : Int → Int} {s s' : VmS} {r : Option Int} (hq : insO q) (hd : ∀ o, U32 (d o)) (hs : VmOk s) (h : stepV alI hdI q d s = (r, s')) : VmOk s' := by
  unfold stepV at h
  by_cases c6 : q.1 = 6
  · rw [if_pos c6] at h; injection h with _ h; subst h; exact hs
  rw [if_neg c6] at h
  by_cases c22 : q.1 = 22
  · rw [if_pos c22] at h; injection h with _ h; subst h; exact hs
  rw [if_neg c22] at h
  by_cases c5 : q.1 = 5
  · rw [if_pos c5] at h; injection h with _ h; subst h; exact ⟨hs.a, hs.x, hs.len, hs.mem⟩
  rw [if_neg c5] at h
  by_cases cj : formOf q.1 = 5 ∨ formOf q.1 = 6
  · rw [if_pos cj] at h; injection h with _ h; subst h; exact ⟨hs.a, hs.x, hs.len, hs.mem⟩
  rw [if_neg cj] at h
  cases he : effV alI q d s with
  | none => rw [he] at h; injection h with _ h; subst h; exact hs
  | some e =>
    obtain ⟨h1, h2, h3, h4⟩ := eff_ok hq hd hs he
    rw [he] at h
    injection h with _ h
    subst h
    exact ⟨h1, h2, h3, h4⟩
end Go.Proofs.YtelfdpcenplhjaaGreatDoor
namespace Go.Proofs.YtelfdpcenplhjaaGreatDoor
open Go.RowKit
theorem row_list {c : Int} (h : rowC c ≠ none) : c ∈ ([0, 1, 2, 3, 4, 5, 6, 7, 12, 20, 21, 22, 28, 29, 32, 36, 37, 44, 45, 52, 53, 60, 61, 68, 69, 76, 77, 84, 92, 96, 97, 100, 108, 116, 124, 128, 129, 132, 135, 164, 172] : List Int) := by
  cases hr : rowC c with
  | none => exact absurd hr h
  | some i =>
    obtain ⟨hi, rfl⟩ := rowC_some hr
    have hall : ((List.range 41).all fun i => ([0, 1, 2, 3, 4, 5, 6, 7, 12, 20, 21, 22, 28, 29, 32, 36, 37, 44, 45, 52, 53, 60, 61, 68, 69, 76, 77, 84, 92, 96, 97, 100, 108, 116, 124, 128, 129, 132, 135, 164, 172] : List Int).contains (kC i)) = true := by decide
    simpa using List.all_eq_true.1 hall i (List.mem_range.2 hi)
theorem form_at_0 : formOf 0 = 1 := by rfl
theorem form_at_1 : formOf 1 = 1 := by rfl
theorem form_at_2 : formOf 2 = 3 := by rfl
theorem form_at_3 : formOf 3 = 3 := by rfl
theorem form_at_4 : formOf 4 = 1 := by rfl
theorem form_at_5 : formOf 5 = 4 := by rfl
theorem form_at_6 : formOf 6 = 1 := by rfl
theorem form_at_7 : formOf 7 = 0 := by rfl
theorem form_at_12 : formOf 12 = 0 := by rfl
theorem form_at_20 : formOf 20 = 1 := by rfl
theorem form_at_21 : formOf 21 = 5 := by rfl
theorem form_at_22 : formOf 22 = 0 := by rfl
theorem form_at_28 : formOf 28 = 0 := by rfl
theorem form_at_29 : formOf 29 = 6 := by rfl
theorem form_at_32 : formOf 32 = 2 := by rfl
theorem form_at_36 : formOf 36 = 1 := by rfl
theorem form_at_37 : formOf 37 = 5 := by rfl
theorem form_at_44 : formOf 44 = 0 := by rfl
theorem form_at_45 : formOf 45 = 6 := by rfl
theorem form_at_52 : formOf 52 = 1 := by rfl
theorem form_at_53 : formOf 53 = 5 := by rfl
theorem form_at_60 : formOf 60 = 0 := by rfl
theorem form_at_61 : formOf 61 = 6 := by rfl
theorem form_at_68 : formOf 68 = 1 := by rfl
theorem form_at_69 : formOf 69 = 5 := by rfl
theorem form_at_76 : formOf 76 = 0 := by rfl
theorem form_at_77 : formOf 77 = 6 := by rfl
theorem form_at_84 : formOf 84 = 1 := by rfl
theorem form_at_92 : formOf 92 = 0 := by rfl
theorem form_at_96 : formOf 96 = 3 := by rfl
theorem form_at_97 : formOf 97 = 3 := by rfl
theorem form_at_100 : formOf 100 = 1 := by rfl
theorem form_at_108 : formOf 108 = 0 := by rfl
theorem form_at_116 : formOf 116 = 1 := by rfl
theorem form_at_124 : formOf 124 = 0 := by rfl
theorem form_at_128 : formOf 128 = 0 := by rfl
theorem form_at_129 : formOf 129 = 0 := by rfl
theorem form_at_132 : formOf 132 = 0 := by rfl
theorem form_at_135 : formOf 135 = 0 := by rfl
theorem form_at_164 : formOf 164 = 1 := by rfl
theorem form_at_172 : formOf 172 = 0 := by rfl
end Go.Proofs.YtelfdpcenplhjaaGreatDoor
namespace Go.Proofs.YtelfdpcenplhjaaGreatDoor
open Go.RowKit
set_option maxHeartbeats 400000 in
theorem halves_any (x : Int) (h : U64 x) (w : World) :
    Calls Tryz.prog 168 #[.int .u64 x] w fun e w' => e = .returned (.tuple #[.int .u32 (lo x), .int .u32 (hi x)]) ∧ w = w' := by
  obtain ⟨h0, h1⟩ := h
  go_enter Tryz.func168, Tryz.ntmps168
  go_wp2
  go_ret2
  exact ⟨rfl, rfl⟩
def rightB (o : Int) : Bool := decide (o % 4 = 0 ∧ o ≤ 60)
set_option maxHeartbeats 400000 in
theorem holds_any (o : Int) (ho : U32 o) (w : World) :
    Calls Tryz.prog 162 #[.int .u32 o] w fun e w' => e = .returned (.bool (rightB o)) ∧ w = w' := by
  obtain ⟨h0, h1⟩ := ho
  by_cases h4 : o % 4 = 0
  · by_cases h6 : o ≤ 60
    · have e : rightB o = true := by unfold rightB; simp [h4, h6]
      rw [e]
      clear e
      go_enter Tryz.func162, Tryz.ntmps162
      go_wp2
      go_ret
      exact ⟨rfl, rfl⟩
    · have e : rightB o = false := by unfold rightB; simp [h6]
      rw [e]
      clear e
      go_enter Tryz.func162, Tryz.ntmps162
      go_wp2
      go_ret
      exact ⟨rfl, rfl⟩
  · have e : rightB o = false := by unfold rightB; simp [h4]
    rw [e]
    clear e
    go_enter Tryz.func162, Tryz.ntmps162
    go_wp2
    go_ret
    exact ⟨rfl, rfl⟩
theorem dat_info : (Tryz.prog.info? 64).map (·.size) = some 9 := by kernel_rfl
end Go.Proofs.YtelfdpcenplhjaaGreatDoor
namespace Go.Proofs.YtelfdpcenplhjaaGreatDoor
open Go.RowKit
def wk (d : Dat) (k : Nat) : List Int := (wordsL d).take (4 + 2 * k) ++ List.replicate (12 - 2 * k) 0
def argL (d : Dat) : List Int := [d.a0, d.a1, d.a2, d.a3, d.a4, d.a5]
theorem wk_step (d : Dat) (k : Nat) (hk : k < 6) : ((arrC (wk d k)).setIfInBounds (4 + 2 * k) (.int .u32 (lo ((argL d).getD k 0)))).setIfInBounds (5 + 2 * k) (.int .u32 (hi ((argL d).getD k 0))) = arrC (wk d (k + 1)) := by
  match k, hk with
  | 0, _ => rfl
  | 1, _ => rfl
  | 2, _ => rfl
  | 3, _ => rfl
  | 4, _ => rfl
  | 5, _ => rfl
theorem wk_end (d : Dat) : wk d 6 = wordsL d := by simp [wk, wordsL]
theorem arr_get (l : List Int) (k : Nat) (hk : k < l.length) : (arrC l)[k]? = some (.int .u32 (l.getD k 0)) := by
  simp [arrC, List.getD, hk]
theorem arr_info : (Tryz.prog.info? 147).map (·.size) = some 16 := by kernel_rfl
theorem arr_one (l : List Int) : (arrC l).all (·.oneCell') = true := by simp [arrC, Value.oneCell']
theorem wk_len (d : Dat) (k : Nat) (hk : k ≤ 6) : (wk d k).length = 16 := by
  simp [wk, words_len]; omega
theorem arg_index (d : Dat) (k : Nat) (hk : k < 6) : ∀ w : World, (Instr.index 62 (.agg #[.int .u64 d.a0, .int .u64 d.a1, .int .u64 d.a2, .int .u64 d.a3, .int .u64 d.a4, .int .u64 d.a5]) (.int .i64 k)).run Tryz.prog w = .ok (.int .u64 ((argL d).getD k 0)) w := by
  match k, hk with
  | 0, _ => intro V; kernel_rfl
  | 1, _ => intro V; kernel_rfl
  | 2, _ => intro V; kernel_rfl
  | 3, _ => intro V; kernel_rfl
  | 4, _ => intro V; kernel_rfl
  | 5, _ => intro V; kernel_rfl
theorem arg_ok (d : Dat) (h : DatOk d) (k : Nat) (hk : k < 6) : U64 ((argL d).getD k 0) := by
  match k, hk with
  | 0, _ => exact h.a0
  | 1, _ => exact h.a1
  | 2, _ => exact h.a2
  | 3, _ => exact h.a3
  | 4, _ => exact h.a4
  | 5, _ => exact h.a5
set_option maxHeartbeats 2000000 in
theorem words_any (d : Dat) (h : DatOk d) (w : World) :
    Calls Tryz.prog 163 #[datV d] w fun e w' => e = .returned (arrV (wordsL d)) ∧ Below w.heap.size w w' := by
  have HA := Lib.hid (arg_ok d h)
  have HI := Lib.hid (arg_index d)
  have hip := h.ip
  unfold datV datC
  go_enter Tryz.func163, Tryz.ntmps163
  go_wp2_with (go_at_call 168; refine (halves_any _ hip _).mono ?_; rintro e w' ⟨rfl, rfl⟩)
  go_loopw [21] (fun i wr => ∃ k : Nat, k ≤ 6 ∧ i = .int .i64 k ∧ Blk wr (w.heap.size + 1 + 1) (arrC (wk d k)) 147 ∧ Blk wr (w.heap.size + 1) (arrC (List.replicate 16 0)) 147 ∧ Below w.heap.size w wr) (fun i _ => 6 - (intOf i).toNat)
  case atStart =>
    exact ⟨0, Nat.zero_le _, rfl, Blk.new_ _ _ _ (by simp), (Blk.new_ _ _ _ (by simp)).alloc _, (((Below.refl _ _).alloc (Nat.le_refl _) _).alloc (by simp) _).alloc (by simp; omega) _⟩
  case round =>
    obtain ⟨k, hk, rfl, b3, b2, hb⟩ := hrel
    by_cases hlt : k < 6
    · have hlt' : (k : Int) < 6 := by omega
      have hi := HI.out k hlt
      have ha := HA.out k hlt
      have c1 := (b3.cell (4 + 2 * k)).trans (arr_get _ _ (by rw [wk_len d k hk]; omega))
      have c2 := (b3.cell (5 + 2 * k)).trans (arr_get _ _ (by rw [wk_len d k hk]; omega))
      have f1 := b3.frozen (4 + 2 * k)
      have f2 := b3.frozen (5 + 2 * k)
      have hst := Lib.hid (wk_step d k hlt)
      have hset := Lib.hid (fun u v => (b3.set_ (4 + 2 * k) u).set_ (5 + 2 * k) v)
      obtain ⟨x, hx⟩ : ∃ x, (argL d).getD k 0 = x := ⟨_, rfl⟩
      rw [hx] at hi ha
      have HX := Lib.hid hx
      clear hx
      go_wp2_with (go_at_call 168; refine (halves_any _ ha _).mono ?_; rintro e w' ⟨rfl, rfl⟩)
      refine ⟨⟨k + 1, by omega, by go_num, ?_, (b2.far (by simp) _).far (by simp) _, (hb.setCell (by simp; omega) _).setCell (by simp; omega) _⟩, by simp [intOf]; omega⟩
      rw [← hst.out, HX.out]
      exact hset.out _ _
    · obtain rfl : k = 6 := by omega
      rw [wk_end] at b3
      have hone := Lib.hid (arr_one (wordsL d))
      go_wp2_with (first
        | (refine wpList_load_row rfl 147 (.tmp 3) rfl (w.heap.size + 1 + 1) rfl 147 (arrC (wordsL d)) (0, 0) _ b3.blk Tryz.underlying147 rfl arr_info ?_)
        | (refine wpList_store_blk rfl 147 (.tmp 2) (.tmp 39) rfl (w.heap.size + 1) (arrC (List.replicate 16 0)) (arrC (wordsL d)) 147 rfl rfl b2 rfl arr_info hone.out ?_; intro w9 hw9 hn9))
      refine bodyPost_ret (v := arrV (wordsL d)) (results_cell_row rfl _ _ (w.heap.size + 1) 147 (arrC (wordsL d)) (0, 0) _ rfl hw9.blk Tryz.underlying147 rfl arr_info) rfl ?_
      exact ⟨rfl, hb.trans (hn9.below w.heap.size (by omega) hb.size)⟩
end Go.Proofs.YtelfdpcenplhjaaGreatDoor
namespace Go.Proofs.YtelfdpcenplhjaaGreatDoor
open Go.RowKit
deriving instance DecidableEq for Dat
end Go.Proofs.YtelfdpcenplhjaaGreatDoor
namespace Go.Proofs.YtelfdpcenplhjaaGreatDoor
open Go.RowKit
end Go.Proofs.YtelfdpcenplhjaaGreatDoor
namespace Go.Proofs.YtelfdpcenplhjaaGreatDoor
open Go.RowKit
end Go.Proofs.YtelfdpcenplhjaaGreatDoor
namespace Go.Proofs.YtelfdpcenplhjaaGreatDoor
open Go.RowKit
def dat0 : Dat := ⟨0, 0, 0, 0, 0, 0, 0, 0, 0⟩
end Go.Proofs.YtelfdpcenplhjaaGreatDoor
namespace Go.Proofs.YtelfdpcenplhjaaGreatDoor
open Go.RowKit
def wb (L : List Int) : List Int := (List.range 16).flatMap fun i => low (L.getD i 0) 4
end Go.Proofs.YtelfdpcenplhjaaGreatDoor
namespace Go.Proofs.YtelfdpcenplhjaaGreatDoor
open Go.RowKit
theorem dat0_ok : DatOk dat0 := by constructor <;> (unfold dat0; simp only [U32, U64]; omega)
end Go.Proofs.YtelfdpcenplhjaaGreatDoor
namespace Go.Proofs.YtelfdpcenplhjaaGreatDoor
open Go.RowKit
set_option linter.unusedVariables false
def mcC (p a x : Int) (mem : List Int) : Array Value := #[.int .i64 p, .int .u32 a, .int .u32 x] ++ arrC mem
def vmC (s : VmS) : Array Value := mcC s.pc s.a s.x s.mem
def vmV (s : VmS) : Value := .agg (vmC s)
section
variable {p a x : Int} {mem : List Int}
theorem mc_0 : (mcC p a x mem)[0]? = some (.int .i64 p) := by unfold mcC; rw [Array.getElem?_append_left (by simp)]; rfl
theorem mc_1 : (mcC p a x mem)[1]? = some (.int .u32 a) := by unfold mcC; rw [Array.getElem?_append_left (by simp)]; rfl
theorem mc_2 : (mcC p a x mem)[2]? = some (.int .u32 x) := by unfold mcC; rw [Array.getElem?_append_left (by simp)]; rfl
theorem mc_3 {k : Nat} (h : mem.length = 16) (hk : k < 16) : (mcC p a x mem)[3 + k]? = some (.int .u32 (mem.getD k 0)) := by
  unfold mcC
  rw [Array.getElem?_append_right (by simp)]
  simp only [List.size_toArray, List.length_cons, List.length_nil, Nat.zero_add, Nat.add_sub_cancel_left, Nat.reduceAdd]
  exact arr_get mem k (by omega)
theorem mc_size (h : mem.length = 16) : (mcC p a x mem).size = 19 := by simp [mcC, arrC, h]
theorem mc_one : (mcC p a x mem).all (·.oneCell') = true := by
  rw [Array.all_eq_true_iff_forall_mem]
  intro v hv
  simp only [mcC, Array.mem_append, List.mem_toArray, List.mem_cons, List.not_mem_nil, or_false, arrC, List.mem_map] at hv
  rcases hv with (rfl | rfl | rfl) | ⟨z, _, rfl⟩ <;> rfl
theorem mc_inf (h : mem.length = 16) : (Tryz.prog.info? 149).map (·.size) = some (mcC p a x mem).size := by rw [mc_size h]; kernel_rfl
theorem mc_s0 (u : Int) : (mcC p a x mem).setIfInBounds 0 (.int .i64 u) = mcC u a x mem := by
  apply Array.ext'; simp [mcC]
theorem mc_s1 (u : Int) : (mcC p a x mem).setIfInBounds 1 (.int .u32 u) = mcC p u x mem := by
  apply Array.ext'; simp [mcC]
theorem mc_s2 (u : Int) : (mcC p a x mem).setIfInBounds 2 (.int .u32 u) = mcC p a u mem := by
  apply Array.ext'; simp [mcC]
theorem mc_s3 (k : Nat) (u : Int) : (mcC p a x mem).setIfInBounds (3 + k) (.int .u32 u) = mcC p a x (mem.set k u) := by
  apply Array.ext'
  rw [Nat.add_comm]
  simp [mcC, arrC, List.map_set]
end
section
variable {V : World} {g : Nat} {p a x : Int} {m0 m1 m2 m3 m4 m5 m6 m7 m8 m9 m10 m11 m12 m13 m14 m15 : Int} {t : TypeId}
end
set_option maxHeartbeats 400000 in
theorem second_any (c y z k p a x : Int) (mem : List Int) (w : World) (hK : Kinds w) :
    Calls Tryz.prog 133 #[insV c y z k, .agg (mcC p a x mem)] w fun e w' => e = .returned (.int .u32 (if formOf c = 1 ∨ formOf c = 5 then k else x)) ∧ Below w.heap.size w w' := by
  have F := fun V (h : Kinds V) => form_any c V h
  obtain ⟨r, hr⟩ : ∃ r, formOf c = r := ⟨_, rfl⟩
  rw [hr] at F ⊢
  unfold insV
  have B := (((Below.refl _ w).alloc (Nat.le_refl _) (.cells #[.int .u16 c, .int .u8 y, .int .u8 z, .int .u32 k] 111)).alloc (by simp) (.cells (mcC p a x mem) 149))
  have F' := F _ (hK.below B hK.pos)
  have b2 := Blk.new_ (w.alloc (.cells #[.int .u16 c, .int .u8 y, .int .u8 z, .int .u32 k] 111)) (mcC p a x mem) 149 (n := w.heap.size + 1) (by simp)
  have c2 := (b2.cell 2).trans mc_2
  clear F hr b2
  have key : ∀ v, (if r = 1 ∨ r = 5 then k else x) = v → Calls Tryz.prog 133 #[.agg #[.int .u16 c, .int .u8 y, .int .u8 z, .int .u32 k], .agg (mcC p a x mem)] w fun e w' => e = .returned (.int .u32 v) ∧ Below w.heap.size w w' := by
    intro v hv
    by_cases h1 : r = 1
    · subst h1
      obtain rfl : k = v := by simpa using hv
      clear hv
      go_enter Tryz.func133, Tryz.ntmps133
      go_wp2_with fail
      refine F'.mono ?_
      rintro e w' ⟨rfl, hw'⟩
      subst w'
      go_wp2_with fail
      go_ret
      exact ⟨rfl, B⟩
    · by_cases h5 : r = 5
      · subst h5
        obtain rfl : k = v := by simpa using hv
        clear hv
        go_enter Tryz.func133, Tryz.ntmps133
        go_wp2_with fail
        refine F'.mono ?_
        rintro e w' ⟨rfl, hw'⟩
        subst w'
        go_wp2_with fail
        go_ret
        exact ⟨rfl, B⟩
      · obtain rfl : x = v := by simpa [h1, h5] using hv
        clear hv
        go_enter Tryz.func133, Tryz.ntmps133
        go_wp2_with fail
        refine F'.mono ?_
        rintro e w' ⟨rfl, hw'⟩
        subst w'
        go_wp2_with fail
        go_ret
        exact ⟨rfl, B⟩
  exact key _ rfl
set_option maxHeartbeats 400000 in
theorem given_any (c y z k p a x : Int) (mem : List Int) (w : World) (hK : Kinds w) :
    Calls Tryz.prog 135 #[insV c y z k, .agg (mcC p a x mem)] w fun e w' => e = .returned (.int .u32 (if formOf c = 1 then k else a)) ∧ Below w.heap.size w w' := by
  have F := fun V (h : Kinds V) => form_any c V h
  obtain ⟨r, hr⟩ : ∃ r, formOf c = r := ⟨_, rfl⟩
  rw [hr] at F ⊢
  unfold insV
  have B := (((Below.refl _ w).alloc (Nat.le_refl _) (.cells #[.int .u16 c, .int .u8 y, .int .u8 z, .int .u32 k] 111)).alloc (by simp) (.cells (mcC p a x mem) 149))
  have F' := F _ (hK.below B hK.pos)
  have b2 := Blk.new_ (w.alloc (.cells #[.int .u16 c, .int .u8 y, .int .u8 z, .int .u32 k] 111)) (mcC p a x mem) 149 (n := w.heap.size + 1) (by simp)
  have c1 := (b2.cell 1).trans mc_1
  clear F hr b2
  by_cases h1 : r = 1
  · subst h1
    rw [if_pos rfl]
    go_enter Tryz.func135, Tryz.ntmps135
    go_wp2_with fail
    refine F'.mono ?_
    rintro e w' ⟨rfl, hw'⟩
    subst w'
    go_wp2_with fail
    go_ret
    exact ⟨rfl, B⟩
  · rw [if_neg h1]
    go_enter Tryz.func135, Tryz.ntmps135
    go_wp2_with fail
    refine F'.mono ?_
    rintro e w' ⟨rfl, hw'⟩
    subst w'
    go_wp2_with fail
    go_ret
    exact ⟨rfl, B⟩
set_option maxHeartbeats 400000 in
theorem moved_any (c y z k p a x : Int) (mem : List Int) (w : World) (hK : Kinds w) :
    Calls Tryz.prog 136 #[insV c y z k, .agg (mcC p a x mem)] w fun e w' => e = .returned (.tuple #[.int .u32 (if (nameOf c).1.toList = [116, 97, 120] then a else x), .int .u32 (if (nameOf c).1.toList = [116, 97, 120] then a else x)]) ∧ Below w.heap.size w w' := by
  have F := fun V (h : Kinds V) => name_any c V h
  obtain ⟨⟨r, t⟩, hr⟩ : ∃ r, nameOf c = r := ⟨_, rfl⟩
  rw [hr] at F ⊢
  simp only at F ⊢
  unfold insV
  have B := (((Below.refl _ w).alloc (Nat.le_refl _) (.cells #[.int .u16 c, .int .u8 y, .int .u8 z, .int .u32 k] 111)).alloc (by simp) (.cells (mcC p a x mem) 149))
  have F' := F _ (hK.below B hK.pos)
  have b2 := Blk.new_ (w.alloc (.cells #[.int .u16 c, .int .u8 y, .int .u8 z, .int .u32 k] 111)) (mcC p a x mem) 149 (n := w.heap.size + 1) (by simp)
  have b3 := fun V (h : Below (w.heap.size + 2) ((w.alloc (.cells #[.int .u16 c, .int .u8 y, .int .u8 z, .int .u32 k] 111)).alloc (.cells (mcC p a x mem) 149)) V) => b2.below h (by omega)
  clear F hr b2
  by_cases h1 : r.toList = [116, 97, 120]
  · rw [if_pos h1]
    go_enter Tryz.func136, Tryz.ntmps136
    go_wp2_with fail
    refine F'.mono ?_
    rintro e w' ⟨rfl, hb⟩
    have b4 := b3 w' (by simpa using hb)
    have c1 := (b4.cell 1).trans mc_1
    have B' := B.trans (hb.mono (by simp; omega))
    clear b3 hb
    go_wp2_with fail
    go_region
    go_wp2_with fail
    go_ret2
    exact ⟨rfl, B'.drew⟩
  · rw [if_neg h1]
    have h2 : (r.toList == [116, 97, 120]) = false := by simpa using h1
    go_enter Tryz.func136, Tryz.ntmps136
    go_wp2_with fail
    refine F'.mono ?_
    rintro e w' ⟨rfl, hb⟩
    have b4 := b3 w' (by simpa using hb)
    have c2 := (b4.cell 2).trans mc_2
    have B' := B.trans (hb.mono (by simp; omega))
    clear b3 hb
    go_wp2_with fail
    go_region
    go_wp2_with fail
    go_ret2
    exact ⟨rfl, B'.drew⟩
end Go.Proofs.YtelfdpcenplhjaaGreatDoor
namespace Go.Proofs.YtelfdpcenplhjaaGreatDoor
open Go.RowKit
theorem word_index (l : List Int) (hl : l.length = 16) (k : Nat) (hk : k < 16) : ∀ w : World, (Instr.index 147 (arrV l) (.int .u32 k)).run Tryz.prog w = .ok (.int .u32 (l.getD k 0)) w := by
  match l, hl with
  | [x0, x1, x2, x3, x4, x5, x6, x7, x8, x9, x10, x11, x12, x13, x14, x15], _ =>
    match k, hk with
    | 0, _ => intro V; kernel_rfl
    | 1, _ => intro V; kernel_rfl
    | 2, _ => intro V; kernel_rfl
    | 3, _ => intro V; kernel_rfl
    | 4, _ => intro V; kernel_rfl
    | 5, _ => intro V; kernel_rfl
    | 6, _ => intro V; kernel_rfl
    | 7, _ => intro V; kernel_rfl
    | 8, _ => intro V; kernel_rfl
    | 9, _ => intro V; kernel_rfl
    | 10, _ => intro V; kernel_rfl
    | 11, _ => intro V; kernel_rfl
    | 12, _ => intro V; kernel_rfl
    | 13, _ => intro V; kernel_rfl
    | 14, _ => intro V; kernel_rfl
    | 15, _ => intro V; kernel_rfl
    | n + 16, h => exact absurd h (by omega)
theorem right_parts (o : Int) (ho : U32 o) (h : rightB o = true) : ∃ k : Nat, k < 16 ∧ o / 4 = (k : Int) ∧ o = 4 * k := by
  unfold rightB at h
  unfold U32 at ho
  simp only [decide_eq_true_eq] at h
  exact ⟨(o / 4).toNat, by omega, by omega, by omega⟩
set_option maxRecDepth 100000 in
set_option maxHeartbeats 1000000 in
theorem word_ok (d : Dat) (h : DatOk d) (o : Int) (ho : U32 o) (hr : rightB o = true) (k : Nat) (hk : k < 16) (ek : o / 4 = (k : Int)) (w : World) :
    Calls Tryz.prog 144 #[datV d, .int .u32 o] w fun e w' => e = .returned (.tuple #[.int .u32 ((wordsL d).getD k 0), .int .i64 0]) ∧ Below w.heap.size w w' := by
  have hi := word_index (wordsL d) (words_len d) k hk
  rw [← ek] at hi
  obtain ⟨x, hx⟩ : ∃ x, (wordsL d).getD k 0 = x := ⟨_, rfl⟩
  rw [hx] at hi ⊢
  have HX := Lib.hid hx
  have HK := Lib.hid ek
  have H := holds_any o ho
  rw [hr] at H
  obtain ⟨o0, o1⟩ := ho
  clear hx ek hr
  have W := fun w => words_any d h w
  unfold datV datC at W ⊢
  go_enter Tryz.func144, Tryz.ntmps144
  go_wp2_with fail
  refine (H _).mono ?_
  rintro e w' ⟨rfl, rfl⟩
  go_wp2_with fail
  refine (W _).mono ?_
  rintro e w2 ⟨rfl, b2⟩
  go_wp2_with fail
  go_ret2
  exact ⟨rfl, ((Below.refl _ _).alloc (Nat.le_refl _) _).trans (b2.mono (by simp))⟩
theorem But.blk {w w' : World} {g g' : Nat} {cs : Array Value} {t : TypeId} (h : But g w w') (k : Blk w g' cs t) (hn : g' ≠ g) : Blk w' g' cs t := ⟨(h.block g' k.lt hn).trans k.blk⟩
end Go.Proofs.YtelfdpcenplhjaaGreatDoor
namespace Go.Proofs.YtelfdpcenplhjaaGreatDoor
open Go.RowKit
set_option linter.unusedVariables false
structure MJ (w V : World) (g1 g2 : Nat) (c y z k p a x : Int) (mem : List Int) : Prop where
  ki : Blk V g1 #[.int .u16 c, .int .u8 y, .int .u8 z, .int .u32 k] 111
  km : Blk V g2 (mcC p a x mem) 149
  kk : Kinds V
  old : Below w.heap.size w V
section
variable {w V V' : World} {g1 g2 : Nat} {c y z k p a x : Int} {mem : List Int}
theorem MJ.below (h : MJ w V g1 g2 c y z k p a x mem) (hb : Below V.heap.size V V') : MJ w V' g1 g2 c y z k p a x mem :=
  ⟨h.ki.below hb h.ki.lt, h.km.below hb h.km.lt, h.kk.below hb h.kk.pos, h.old.trans (hb.mono h.old.size)⟩
theorem MJ.drew (h : MJ w V g1 g2 c y z k p a x mem) : MJ w V.drew g1 g2 c y z k p a x mem := h.below (Below.refl _ _).drew
theorem MJ.new (w : World) (hK : Kinds w) : MJ w ((w.alloc (.cells #[.int .u16 c, .int .u8 y, .int .u8 z, .int .u32 k] 111)).alloc (.cells (mcC p a x mem) 149)) w.heap.size (w.heap.size + 1) c y z k p a x mem :=
  have B := ((Below.refl w.heap.size w).alloc (Nat.le_refl _) (.cells #[.int .u16 c, .int .u8 y, .int .u8 z, .int .u32 k] 111)).alloc (by simp) (.cells (mcC p a x mem) 149)
  ⟨(Blk.new w _ _).alloc _, Blk.new_ _ _ _ (by simp), hK.below B hK.pos, B⟩
end
set_option maxRecDepth 100000 in
set_option maxHeartbeats 2000000 in
theorem further_test' (c y z k p a x : Int) (mem : List Int) (hl : mem.length = 16) (hq : InsOk c y z k) (ha : U32 a) (hx : U32 x) (w : World) (hK : Kinds w) (r : Int) (hr : formOf c = r) (h4 : ¬ r = 4) :
    Calls Tryz.prog 134 #[insV c y z k, .agg (mcC p a x mem)] w fun e w' => e = .returned (.int .i64 (if hdI c a (if r = 1 ∨ r = 5 then k else x) = true then y else z)) ∧ Below w.heap.size w w' := by
  obtain ⟨hc0, hc1, y0', y1', z0', z1', k0, k1⟩ := hq
  have hk : U32 k := ⟨k0, k1⟩
  have F := fun V (h : Kinds V) => form_any c V h
  have S := fun V (h : Kinds V) => second_any c y z k p a x mem V h
  obtain ⟨b, hb⟩ : ∃ b, (if r = 1 ∨ r = 5 then k else x) = b := ⟨_, rfl⟩
  rw [hr] at F S
  rw [hb] at S ⊢
  have hbU : U32 b := by rw [← hb]; split <;> assumption
  have H := fun V => hd_any c a b hc0 hc1 ha hbU V
  unfold insV at S ⊢
  have J := MJ.new (c := c) (y := y) (z := z) (k := k) (p := p) (a := a) (x := x) (mem := mem) w hK
  have F' := F _ J.kk
  obtain ⟨v, hv⟩ : ∃ v, hdI c a b = v := ⟨_, rfl⟩
  rw [hv] at H ⊢
  have S' := Lib.hid (calls_keep (S := fun V => MJ w V w.heap.size (w.heap.size + 1) c y z k p a x mem) (fun V V' h hb => h.below hb) (fun V h => S V h.kk))
  have H' := Lib.hid (calls_keep (S := fun V => MJ w V w.heap.size (w.heap.size + 1) c y z k p a x mem) (fun V V' h hb => h.below hb) (fun V _ => H V))
  have hl' := hl
  clear F hr hb hv S hl
  have K0 := J.kk
  go_enter Tryz.func134, Tryz.ntmps134
  go_wp2_with fail
  refine F'.mono ?_
  rintro e w' ⟨rfl, hw'⟩
  subst w'
  go_wp2_with fail
  have J0 := J.drew
  clear J F' H K0
  have hne : Nonempty (Sig (fun V => MJ w V w.heap.size (w.heap.size + 1) c y z k p a x mem)) := ⟨⟨_, J0⟩⟩
  refine region_class (S := fun V => MJ w V w.heap.size (w.heap.size + 1) c y z k p a x mem) (by kernel_rfl) (by kernel_rfl) J0 ?_
  have hS1 : ∀ s : Sig (fun V => MJ w V w.heap.size (w.heap.size + 1) c y z k p a x mem), s.V.cell? ⟨w.heap.size, 0, none⟩ = some (.int .u16 c) := fun s => s.h.ki.cell 0
  have hS2 : ∀ s : Sig (fun V => MJ w V w.heap.size (w.heap.size + 1) c y z k p a x mem), s.V.cell? ⟨w.heap.size + 1, 1, none⟩ = some (.int .u32 a) := fun s => (s.h.km.cell 1).trans mc_1
  repeat (first
    | (refine class_load (by rfl) 111 (.tmp 2) rfl w.heap.size rfl _ 111 _ (fun _ h => h.ki) Tryz.underlying111 rfl (by kernel_rfl) ?_; simp only [Act.put, List.setIfInBounds_toArray, List.set_cons_zero, List.set_cons_succ])
    | (refine class_load (by rfl) 149 (.tmp 3) rfl (w.heap.size + 1) rfl _ 149 _ (fun _ h => h.km) Tryz.underlying149 rfl (mc_inf hl') ?_; simp only [Act.put, List.setIfInBounds_toArray, List.set_cons_zero, List.set_cons_succ])
    | go_big_quiet_step (first | (go_at_call 133; exact class_call _ S'.out) | (go_at_call 156; exact class_call _ H'.out)))
  refine wpQuiet_nil ?_
  rintro _ ⟨s7, rfl⟩
  have J7 := s7.h
  have y0 := J7.ki.cell 1
  have z0 := J7.ki.cell 2
  clear hS1 hS2 hne
  cases v
  · go_wp2_with fail
    go_ret
    exact ⟨rfl, J7.old⟩
  · go_wp2_with fail
    go_ret
    exact ⟨rfl, J7.old⟩
set_option maxHeartbeats 1000000 in
theorem further_jump (c y z k p a x : Int) (mem : List Int) (hq : InsOk c y z k) (w : World) (hK : Kinds w) (hr : formOf c = 4) :
    Calls Tryz.prog 134 #[insV c y z k, .agg (mcC p a x mem)] w fun e w' => e = .returned (.int .i64 k) ∧ Below w.heap.size w w' := by
  obtain ⟨hc0, hc1, y0', y1', z0', z1', k0, k1⟩ := hq
  have F := fun V (h : Kinds V) => form_any c V h
  rw [hr] at F
  unfold insV
  have J := MJ.new (c := c) (y := y) (z := z) (k := k) (p := p) (a := a) (x := x) (mem := mem) w hK
  have F' := F _ J.kk
  have B := J.old
  clear F hr J
  go_enter Tryz.func134, Tryz.ntmps134
  go_wp2_with fail
  refine F'.mono ?_
  rintro e w' ⟨rfl, hw'⟩
  subst w'
  go_wp2_with fail
  go_ret
  exact ⟨rfl, B⟩
def furI (q : Ins) (a x : Int) : Int := if formOf q.1 = 4 then q.2.2.2 else if hdI q.1 a (if formOf q.1 = 1 ∨ formOf q.1 = 5 then q.2.2.2 else x) = true then q.2.1 else q.2.2.1
theorem further_any (q : Ins) (p a x : Int) (mem : List Int) (hl : mem.length = 16) (hq : insO q) (ha : U32 a) (hx : U32 x) (w : World) (hK : Kinds w) :
    Calls Tryz.prog 134 #[valI q, .agg (mcC p a x mem)] w fun e w' => e = .returned (.int .i64 (furI q a x)) ∧ Below w.heap.size w w' := by
  unfold furI
  by_cases h4 : formOf q.1 = 4
  · rw [if_pos h4]
    exact further_jump _ _ _ _ p a x mem hq w hK h4
  · rw [if_neg h4]
    exact further_test' _ _ _ _ p a x mem hl hq ha hx w hK _ rfl h4
def dW (d : Dat) (o : Int) : Int := (wordsL d).getD (o / 4).toNat 0
theorem dW_bd (d : Dat) (h : DatOk d) (o : Int) : U32 (dW d o) := (words_bd d h).at_ _
def ldI (q : Ins) (d : Int → Int) (mem : List Int) : Int := if formOf q.1 = 2 then d q.2.2.2 else if formOf q.1 = 1 then q.2.2.2 else if formOf q.1 = 3 then mem.getD q.2.2.2.toNat 0 else 64
structure LJ (w V : World) (q : Ins) (d : Dat) (p a x : Int) (mem : List Int) : Prop where
  ki : Blk V w.heap.size (celI q).toArray 111
  kd : Blk V (w.heap.size + 1) (datC d) 64
  km : Blk V (w.heap.size + 1 + 1) (mcC p a x mem) 149
  kk : Kinds V
  old : Below w.heap.size w V
section
variable {w V V' : World} {q : Ins} {d : Dat} {p a x : Int} {mem : List Int}
theorem LJ.below (h : LJ w V q d p a x mem) (hb : Below V.heap.size V V') : LJ w V' q d p a x mem :=
  ⟨h.ki.below hb h.ki.lt, h.kd.below hb h.kd.lt, h.km.below hb h.km.lt, h.kk.below hb h.kk.pos, h.old.trans (hb.mono h.old.size)⟩
theorem LJ.drew (h : LJ w V q d p a x mem) : LJ w V.drew q d p a x mem := h.below (Below.refl _ _).drew
theorem LJ.new (w : World) (hK : Kinds w) : LJ w (((w.alloc (.cells (celI q).toArray 111)).alloc (.cells (datC d) 64)).alloc (.cells (mcC p a x mem) 149)) q d p a x mem :=
  have B := (((Below.refl w.heap.size w).alloc (Nat.le_refl _) (.cells (celI q).toArray 111)).alloc (by simp) (.cells (datC d) 64)).alloc (by simp; omega) (.cells (mcC p a x mem) 149)
  ⟨((Blk.new w _ _).alloc _).alloc _, (Blk.new_ _ _ _ (by simp)).alloc _, Blk.new_ _ _ _ (by simp), hK.below B hK.pos, B⟩
theorem LJ.cells (h : LJ w V q d p a x mem) : V.cell? ⟨w.heap.size, 0, none⟩ = some (.int .u16 q.1) ∧ V.cell? ⟨w.heap.size, 1, none⟩ = some (.int .u8 q.2.1) ∧ V.cell? ⟨w.heap.size, 2, none⟩ = some (.int .u8 q.2.2.1) ∧ V.cell? ⟨w.heap.size, 3, none⟩ = some (.int .u32 q.2.2.2) :=
  ⟨h.ki.cell 0, h.ki.cell 1, h.ki.cell 2, h.ki.cell 3⟩
end
set_option maxRecDepth 100000 in
set_option maxHeartbeats 2000000 in
theorem loaded_any (q : Ins) (d : Dat) (hd : DatOk d) (p a x : Int) (mem : List Int) (hl : mem.length = 16) (hq : insO q) (h2 : formOf q.1 = 2 → rightB q.2.2.2 = true) (h3 : formOf q.1 = 3 → q.2.2.2 < 16) (w : World) (hK : Kinds w) :
    Calls Tryz.prog 131 #[valI q, datV d, .agg (mcC p a x mem)] w fun e w' => e = .returned (.int .u32 (ldI q (dW d) mem)) ∧ Below w.heap.size w w' := by
  obtain ⟨c, y, z, k⟩ := q
  have J := LJ.new (q := (c, y, z, k)) (d := d) (p := p) (a := a) (x := x) (mem := mem) w hK
  obtain ⟨hc0, hc1, y0', y1', z0', z1', k0, k1⟩ := hq
  simp only at h2 h3 hc0 hc1 k0 k1
  have F := form_any c _ J.kk
  simp only [valI, insV, datV, ldI, celI] at J F ⊢
  obtain ⟨i0, _, _, i3⟩ := J.cells
  simp only at i0 i3
  have B := J.old
  obtain ⟨r, hr⟩ : ∃ r, formOf c = r := ⟨_, rfl⟩
  rw [hr] at F h2 h3 ⊢
  clear hr
  by_cases r2 : r = 2
  · subst r2
    simp only [if_pos]
    obtain ⟨kn, hk16, ek, ek4⟩ := right_parts k ⟨k0, k1⟩ (h2 rfl)
    have W := word_ok d hd k ⟨k0, k1⟩ (h2 rfl) kn hk16 ek
    have ew : dW d k = (wordsL d).getD kn 0 := by unfold dW; rw [ek]; rfl
    rw [ew]
    unfold datV at W
    have kd := J.kd
    clear h2 h3 ek ew J ek4
    go_enter Tryz.func131, Tryz.ntmps131
    go_wp2_with fail
    refine F.mono ?_
    rintro e w' ⟨rfl, hw'⟩
    subst w'
    go_wp2_with (refine wpList_load_row rfl 64 (.tmp 4) rfl (w.heap.size + 1) rfl 64 (datC d) (0, 0) _ kd.blk Tryz.underlying64 rfl dat_info ?_)
    refine (W _).mono ?_
    rintro e w' ⟨rfl, hb⟩
    go_wp2_with fail
    go_ret
    exact ⟨rfl, B.trans (hb.mono B.size)⟩
  · rw [if_neg r2]
    by_cases r1 : r = 1
    · subst r1
      simp only [if_pos]
      clear h2 h3 J
      go_enter Tryz.func131, Tryz.ntmps131
      go_wp2_with fail
      refine F.mono ?_
      rintro e w' ⟨rfl, hw'⟩
      subst w'
      go_wp2_with fail
      go_ret
      exact ⟨rfl, B⟩
    · rw [if_neg r1]
      by_cases r3 : r = 3
      · subst r3
        simp only [if_pos]
        obtain ⟨kn, rfl⟩ : ∃ kn : Nat, k = (kn : Int) := ⟨k.toNat, by omega⟩
        have hkn := h3 rfl
        have m3 := (J.km.cell (3 + kn)).trans (mc_3 hl (by omega))
        rw [Int.toNat_natCast]
        clear h2 h3 J
        go_enter Tryz.func131, Tryz.ntmps131
        go_wp2_with fail
        refine F.mono ?_
        rintro e w' ⟨rfl, hw'⟩
        subst w'
        go_wp2_with fail
        go_ret
        exact ⟨rfl, B⟩
      · rw [if_neg r3]
        clear h2 h3 J
        go_enter Tryz.func131, Tryz.ntmps131
        go_wp2_with fail
        refine F.mono ?_
        rintro e w' ⟨rfl, hw'⟩
        subst w'
        go_wp2_with fail
        go_ret
        exact ⟨rfl, B⟩
end Go.Proofs.YtelfdpcenplhjaaGreatDoor
