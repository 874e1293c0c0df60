/-
  Tasks that came in, and rows of them, as they are opened.
-/
import Derived.Test.YtlelhhgggnjndaaGreatQTqT
import Derived.Test.YtlelhhgggnjndaaGreatQTpP
import Derived.Test.YtlelhhgggnjndaaGreatQTkRc
import Derived.Test.YtlelhhgggnjndaaGreatQPiSh
import Derived.Deep.SlicePairs
import Derived.Lib.SmallJoins
import Derived.ChangeArms
import Derived.ChangeSlices
namespace Go.Proofs.YtlelhhgggnjndaaGreat
open Go.RowKit Go.Shelf
set_option linter.unusedVariables false
set_option linter.unusedSimpArgs false
theorem withG_mem (n y : Int) : ∀ (l : List Int) (d : Bool), y ∈ withG n d l ↔ (d = false ∧ y = n) ∨ (y ∈ l ∧ y ≠ n)
  | [], d => by cases d <;> simp [withG]
  | x :: l, d => by
    unfold withG
    rw [List.mem_append, List.mem_append, withG_mem n y l]
    have e1 : y ∈ (if (!d && decide (n ≤ x)) = true then [n] else []) ↔ (d = false ∧ n ≤ x) ∧ y = n := by
      cases d
      · by_cases h : n ≤ x
        · simp [h]
        · simp [h]; try (intro h2; omega)
      · simp
    have e2 : y ∈ (if (x != n) = true then [x] else []) ↔ x ≠ n ∧ y = x := by
      by_cases h : x = n
      · subst h; simp
      · simp [h]
    rw [e1, e2, List.mem_cons, Bool.or_eq_false_iff, decide_eq_false_iff_not]
    constructor
    · rintro (⟨⟨h1, _⟩, h2⟩ | ⟨h1, rfl⟩ | ⟨⟨h1, _⟩, h2⟩ | ⟨h1, h2⟩)
      · exact .inl ⟨h1, h2⟩
      · exact .inr ⟨.inl rfl, h1⟩
      · exact .inl ⟨h1, h2⟩
      · exact .inr ⟨.inr h1, h2⟩
    · rintro (⟨h1, h2⟩ | ⟨rfl | h1, h2⟩)
      · by_cases h : n ≤ x
        · exact .inl ⟨⟨h1, h⟩, h2⟩
        · exact .inr (.inr (.inl ⟨⟨h1, h⟩, h2⟩))
      · exact .inr (.inl ⟨h2, rfl⟩)
      · exact .inr (.inr (.inr ⟨h1, h2⟩))
theorem withG_id (n : Int) : ∀ (l : List Int), (∀ x ∈ l, x ≠ n) → withG n true l = l
  | [], _ => rfl
  | x :: l, h => by
    have h1 : (x != n) = true := by simpa using h x (List.mem_cons_self ..)
    unfold withG
    rw [if_neg (by simp), if_pos h1, Bool.true_or, withG_id n l fun z hz => h z (List.mem_cons_of_mem _ hz)]
    rfl
theorem withG_up (n : Int) : ∀ (l : List Int), l.Pairwise (· < ·) → (withG n false l).Pairwise (· < ·)
  | [], _ => by simp [withG]
  | x :: l, h => by
    rw [List.pairwise_cons] at h
    unfold withG
    by_cases hn : n ≤ x
    · have e : withG n (false || decide (n ≤ x)) l = l := by
        rw [decide_eq_true hn, Bool.or_true]
        exact withG_id n l fun z hz => by have := h.1 z hz; omega
      rw [e, if_pos (by simpa using hn)]
      by_cases hx : x = n
      · subst hx
        simp only [bne_self_eq_false, Bool.false_eq_true, if_false, List.nil_append, List.cons_append, List.pairwise_cons]
        exact h
      · rw [if_pos (by simpa using hx)]
        simp only [List.cons_append, List.nil_append, List.pairwise_cons, List.mem_cons]
        refine ⟨?_, h.1, h.2⟩
        rintro z (rfl | hz)
        · omega
        · have := h.1 z hz; omega
    · rw [if_neg (by simpa using hn), decide_eq_false hn, if_pos (by simp; omega)]
      simp only [List.nil_append, List.cons_append, List.pairwise_cons]
      refine ⟨fun z hz => ?_, withG_up n l h.2⟩
      rcases (withG_mem n z l _).1 hz with ⟨_, rfl⟩ | ⟨h1, _⟩
      · omega
      · exact h.1 z h1
theorem withs_mem (y : Int) : ∀ (l o : List Int), y ∈ withs o l ↔ y ∈ l ∨ y ∈ o
  | [], o => by simp [withs]
  | t :: l, o => by
    rw [withs, withs_mem y l, withG_mem, List.mem_cons]
    constructor
    · rintro (h | ⟨_, h⟩ | ⟨h, _⟩)
      · exact .inl (.inr h)
      · exact .inl (.inl h)
      · exact .inr h
    · rintro ((rfl | h) | h)
      · exact .inr (.inl ⟨rfl, rfl⟩)
      · exact .inl h
      · by_cases e : y = t
        · exact .inr (.inl ⟨rfl, e⟩)
        · exact .inr (.inr ⟨h, e⟩)
theorem withs_up : ∀ (l o : List Int), o.Pairwise (· < ·) → (withs o l).Pairwise (· < ·)
  | [], o, h => h
  | t :: l, o, h => withs_up l _ (withG_up t o h)
def flatT (L : List Pw) : List Int := L.flatMap fun x => x.1.i :: x.1.t
theorem mem_flatT {L : List Pw} {y : Int} : y ∈ flatT L ↔ y ∈ idsP L ∨ y ∈ tidF L := by
  induction L with
  | nil => simp [flatT, idsP, tidF, thrF]
  | cons x L ih =>
    rw [tidF_cons]
    unfold flatT idsP at *
    rw [List.flatMap_cons, List.map_cons, List.mem_append, ih]
    simp only [List.mem_cons, List.mem_append]
    constructor
    · rintro ((h | h) | (h | h))
      · exact .inl (.inl h)
      · exact .inr (.inl h)
      · exact .inl (.inr h)
      · exact .inr (.inr h)
    · rintro ((h | h) | (h | h))
      · exact .inl (.inl h)
      · exact .inr (.inl h)
      · exact .inl (.inr h)
      · exact .inr (.inr h)
theorem rgtF_iff (L : List Pw) (U : List Int) : ∀ (l : List Pw) (k : Nat) (all : List Int) (n : Nat), rgtF L U k all n l = true ↔ (∀ j x, l[j]? = some x → headB L (k + j) x = false ∧ parB L x = false ∧ shrA (k + j) x.1.t 0 L = false) ∧ n + (tidF l).length ≤ 8 ∧ U = withs all (flatT l)
  | [], k, all, n => by simp [rgtF, tidF, thrF, flatT, withs]
  | x :: l, k, all, n => by
    rw [rgtF, tidF_cons]
    simp only [Bool.and_eq_true, Bool.not_eq_true', rgtF_iff L U l]
    have e : withs all (flatT (x :: l)) = withs (withs (withG x.1.i false all) x.1.t) (flatT l) := by
      rw [← withs_app]
      rfl
    rw [e, List.length_append]
    constructor
    · rintro ⟨h1, h2, h3, h4, h5, h6⟩
      refine ⟨fun j y hj => ?_, by omega, h6⟩
      rcases j with _ | j
      · simp only [List.getElem?_cons_zero, Option.some.injEq] at hj
        subst hj
        exact ⟨h1, h2, h3⟩
      · have := h4 j y (by simpa using hj)
        rw [show k + (j + 1) = k + 1 + j by omega]
        exact this
    · rintro ⟨h1, h2, h3⟩
      have h0 := h1 0 x rfl
      refine ⟨h0.1, h0.2.1, h0.2.2, fun j y hj => ?_, by omega, h3⟩
      have := h1 (j + 1) y (by simpa using hj)
      rw [show k + (j + 1) = k + 1 + j by omega] at this
      exact this
theorem shrA_iff (k : Nat) (t : List Int) : ∀ (l : List Pw) (n : Nat), shrA k t n l = false ↔ ∀ j y, l[j]? = some y → ∀ id ∈ t, hitB k (n + j) y id = false
  | [], n => by simp [shrA]
  | x :: l, n => by
    rw [shrA, Bool.or_eq_false_iff, shrA_iff k t l, List.any_eq_false]
    constructor
    · rintro ⟨h1, h2⟩ j y hj id hid
      rcases j with _ | j
      · simp only [List.getElem?_cons_zero, Option.some.injEq] at hj
        subst hj
        simpa using h1 id hid
      · rw [show n + (j + 1) = n + 1 + j by omega]
        exact h2 j y (by simpa using hj) id hid
    · intro h
      refine ⟨fun id hid => by simpa using h 0 x rfl id hid, fun j y hj id hid => ?_⟩
      rw [show n + 1 + j = n + (j + 1) by omega]
      exact h (j + 1) y (by simpa using hj) id hid
def Sh (L : List Pw) : Prop := ∀ (k : Nat) (x : Pw) (j : Nat) (y : Pw), L[k]? = some x → L[j]? = some y → j ≠ k → ∀ id ∈ x.1.t, y.1.i ≠ id ∧ id ∉ y.1.t
theorem sh_iff (L : List Pw) : (∀ (k : Nat) (x : Pw), L[k]? = some x → shrA k x.1.t 0 L = false) ↔ Sh L := by
  constructor
  · intro h k x j y hk hj hne id hid
    have := (shrA_iff k x.1.t L 0).1 (h k x hk) j y hj id hid
    unfold hitB at this
    rw [Nat.zero_add, show (j != k) = true by simpa using hne, Bool.true_and, Bool.or_eq_false_iff] at this
    exact ⟨by simpa using this.1, by simpa using this.2⟩
  · intro h k x hk
    refine (shrA_iff k x.1.t L 0).2 fun j y hj id hid => ?_
    unfold hitB
    rw [Nat.zero_add]
    by_cases hne : j = k
    · subst hne; simp
    · obtain ⟨h1, h2⟩ := h k x j y hk hj hne id hid
      rw [show (y.1.i == id) = false by simpa using h1, show y.1.t.contains id = false by simpa using h2]
      simp
theorem thrF_mem {k : Nat} {t : Int} : ∀ {L : List Pw} {n : Nat}, (k, t) ∈ thrF n L ↔ ∃ j x, k = n + j ∧ L[j]? = some x ∧ t ∈ x.1.t
  | [], n => by simp [thrF]
  | x :: L, n => by
    rw [thrF, List.mem_append, thrF_mem (L := L)]
    constructor
    · rintro (h | ⟨j, y, h1, h2, h3⟩)
      · obtain ⟨t', ht, e⟩ := List.mem_map.1 h
        injection e with e1 e2
        subst e2
        exact ⟨0, x, e1.symm, rfl, ht⟩
      · exact ⟨j + 1, y, by omega, by simpa using h2, h3⟩
    · rintro ⟨j, y, h1, h2, h3⟩
      rcases j with _ | j
      · simp only [List.getElem?_cons_zero, Option.some.injEq] at h2
        subst h2
        exact .inl (List.mem_map.2 ⟨t, h3, by rw [h1]; rfl⟩)
      · exact .inr ⟨j, y, by omega, by simpa using h2, h3⟩
theorem getD_some {L : List Pw} {k : Nat} {x : Pw} (h : L[k]? = some x) : L.getD k pw0 = x := by simp [List.getD, h]
theorem thrF_pw : ∀ (L : List Pw) (n : Nat), (∀ x ∈ L, x.1.t.Pairwise (· < ·)) → L.Pairwise (fun x y => ∀ id ∈ x.1.t, id ∉ y.1.t) → (thrF n L).Pairwise (fun p q => p.2 ≠ q.2)
  | [], n, _, _ => List.Pairwise.nil
  | x :: L, n, h, h2 => by
    rw [List.pairwise_cons] at h2
    rw [thrF, List.pairwise_append]
    refine ⟨?_, thrF_pw L (n + 1) (fun y hy => h y (List.mem_cons_of_mem _ hy)) h2.2, fun p hp q hq => ?_⟩
    · rw [List.pairwise_map]
      exact (h x (List.mem_cons_self ..)).imp fun h9 => by simp only; omega
    · obtain ⟨t, ht, rfl⟩ := List.mem_map.1 hp
      obtain ⟨k2, t2⟩ := q
      obtain ⟨j, y, _, h4, h5⟩ := thrF_mem.1 hq
      intro e
      simp only at e
      subst e
      exact h2.1 y (List.mem_of_getElem? h4) _ ht h5
theorem idsP_get {L : List Pw} {k : Nat} {x : Pw} (h : L[k]? = some x) : (idsP L)[k]? = some x.1.i := by simp [idsP, h]
theorem pid_ne {L : List Pw} (hp : (idsP L).Pairwise (· < ·)) {k j : Nat} {x y : Pw} (hk : L[k]? = some x) (hj : L[j]? = some y) (hne : j ≠ k) : y.1.i ≠ x.1.i := by
  have hk' := idsP_get hk
  have hj' := idsP_get hj
  obtain ⟨h1, e1⟩ := List.getElem?_eq_some_iff.1 hk'
  obtain ⟨h2, e2⟩ := List.getElem?_eq_some_iff.1 hj'
  rw [← e1, ← e2]
  rcases Nat.lt_or_gt_of_ne hne with h | h
  · have := List.pairwise_iff_getElem.1 hp j k h2 h1 h; omega
  · have := List.pairwise_iff_getElem.1 hp k j h1 h2 h; omega
def allD (L : List Pw) : List Int := idsP L ++ oddF L (thrF 0 L)
theorem odd_mem {L : List Pw} {t : Int} : t ∈ oddF L (thrF 0 L) ↔ ∃ (k : Nat) (x : Pw), L[k]? = some x ∧ t ∈ x.1.t ∧ t ≠ x.1.i := by
  unfold oddF
  rw [List.mem_map]
  constructor
  · rintro ⟨⟨k, t2⟩, h, rfl⟩
    obtain ⟨h1, h2⟩ := List.mem_filter.1 h
    obtain ⟨j, x, e, h3, h4⟩ := thrF_mem.1 h1
    rw [Nat.zero_add] at e
    subst e
    rw [getD_some h3] at h2
    exact ⟨k, x, h3, h4, by simpa using h2⟩
  · rintro ⟨k, x, h1, h2, h3⟩
    exact ⟨(k, t), List.mem_filter.2 ⟨thrF_mem.2 ⟨k, x, by omega, h1, h2⟩, by rw [getD_some h1]; simpa using h3⟩, rfl⟩
theorem mem_allD {L : List Pw} {y : Int} : y ∈ allD L ↔ y ∈ flatT L := by
  rw [mem_flatT]
  unfold allD
  rw [List.mem_append, odd_mem]
  constructor
  · rintro (h | ⟨k, x, h1, h2, _⟩)
    · exact .inl h
    · refine .inr ?_
      unfold tidF
      exact List.mem_map.2 ⟨(k, y), thrF_mem.2 ⟨k, x, by omega, h1, h2⟩, rfl⟩
  · rintro (h | h)
    · exact .inl h
    · unfold tidF at h
      obtain ⟨⟨k, t⟩, h1, rfl⟩ := List.mem_map.1 h
      obtain ⟨j, x, _, h2, h3⟩ := thrF_mem.1 h1
      by_cases e : t = x.1.i
      · subst e
        exact .inl (List.mem_of_getElem? (idsP_get h2))
      · exact .inr ⟨j, x, h2, h3, e⟩
theorem nodup_of_sh {L : List Pw} (ht : ∀ x ∈ L, x.1.t.Pairwise (· < ·)) (hp : (idsP L).Pairwise (· < ·)) (h : Sh L) : (allD L).Nodup := by
  unfold allD
  rw [List.nodup_append]
  refine ⟨hp.imp fun h9 => by omega, ?_, fun a ha b hb e => ?_⟩
  · unfold oddF List.Nodup
    rw [List.pairwise_map]
    refine List.Pairwise.filter _ (thrF_pw L 0 ht ?_)
    refine List.pairwise_iff_getElem.2 fun i j hi hj hij id hid => ?_
    exact (h i L[i] j L[j] (by simp [hi]) (by simp [hj]) (by omega) id hid).2
  · subst e
    obtain ⟨k, x, h1, h2, h3⟩ := odd_mem.1 hb
    obtain ⟨j, hj, e⟩ := List.getElem_of_mem ha
    have hj' : j < L.length := by simpa [idsP] using hj
    have hy : L[j]? = some L[j] := by simp [hj']
    have e2 : L[j].1.i = a := by rw [← e]; simp [idsP]
    by_cases hjk : j = k
    · subst hjk
      rw [h1] at hy
      injection hy with hy
      rw [← hy] at e2
      exact h3 e2.symm
    · exact (h k x j _ h1 hy hjk a h2).1 e2
theorem sh_of_nodup {L : List Pw} (hp : (idsP L).Pairwise (· < ·)) (h : (allD L).Nodup) : Sh L := by
  unfold allD at h
  rw [List.nodup_append] at h
  obtain ⟨_, h2, h3⟩ := h
  have dis : ∀ {k : Nat} {x : Pw} {j : Nat} {y : Pw} {id : Int}, L[k]? = some x → L[j]? = some y → id ∈ x.1.t → id ≠ x.1.i → y.1.i = id → False := fun hk hj hid hne e => h3 _ (List.mem_of_getElem? (idsP_get hj)) _ (odd_mem.2 ⟨_, _, hk, hid, hne⟩) e
  intro k x j y hk hj hne id hid
  have hpx := pid_ne hp hk hj hne
  have h1 : y.1.i ≠ id := fun e => by
    by_cases e2 : id = x.1.i
    · exact hpx (by rw [e, e2])
    · exact dis hk hj hid e2 e
  refine ⟨h1, fun hy => ?_⟩
  by_cases e2 : id = x.1.i
  · exact dis hj hk hy (fun e => h1 e.symm) e2.symm
  · have m1 : (k, id) ∈ (thrF 0 L).filter (fun x => !(x.2 == (L.getD x.1 pw0).1.i)) := List.mem_filter.2 ⟨thrF_mem.2 ⟨k, x, by omega, hk, hid⟩, by rw [getD_some hk]; simpa using e2⟩
    have m2 : (j, id) ∈ (thrF 0 L).filter (fun x => !(x.2 == (L.getD x.1 pw0).1.i)) := List.mem_filter.2 ⟨thrF_mem.2 ⟨j, y, by omega, hj, hy⟩, by rw [getD_some hj]; simpa using fun e => h1 e.symm⟩
    unfold oddF List.Nodup at h2
    rw [List.pairwise_map] at h2
    obtain ⟨i1, hi1, e3⟩ := List.getElem_of_mem m1
    obtain ⟨i2, hi2, e4⟩ := List.getElem_of_mem m2
    rcases Nat.lt_trichotomy i1 i2 with h9 | h9 | h9
    · have := List.pairwise_iff_getElem.1 h2 i1 i2 hi1 hi2 h9
      rw [e3, e4] at this
      exact this rfl
    · subst h9
      rw [e3] at e4
      injection e4 with e4 _
      exact hne e4.symm
    · have := List.pairwise_iff_getElem.1 h2 i2 i1 hi2 hi1 h9
      rw [e3, e4] at this
      exact this rfl
theorem sortZ_nd {l : List Int} : (sortZ l).Pairwise (· < ·) ↔ l.Nodup := by
  constructor
  · intro h
    exact (sortZ_perm l).nodup_iff.1 (h.imp fun h9 => by omega)
  · intro h
    have h1 := (sortZ_perm l).nodup_iff.2 h
    exact (List.Pairwise.and (sortZ_up l) h1).imp fun h9 => by obtain ⟨a, b⟩ := h9; have b : _ ≠ _ := b; omega
theorem fndF_at : ∀ (L : List Pw) (k : Nat) (q : Int), (fndF k L q = -1 ∧ q ∉ idsP L) ∨ ∃ j x, L[j]? = some x ∧ x.1.i = q ∧ fndF k L q = ((k + j : Nat) : Int)
  | [], k, q => .inl ⟨rfl, by simp [idsP]⟩
  | x :: L, k, q => by
    rw [fndF]
    by_cases h : x.1.i = q
    · rw [if_pos (by simpa using h)]
      exact .inr ⟨0, x, rfl, h, by simp⟩
    · rw [if_neg (by simpa using h)]
      rcases fndF_at L (k + 1) q with ⟨h1, h2⟩ | ⟨j, y, h1, h2, h3⟩
      · refine .inl ⟨h1, ?_⟩
        unfold idsP at h2 ⊢
        rw [List.map_cons, List.mem_cons]
        rintro (e | e)
        · exact h e.symm
        · exact h2 e
      · exact .inr ⟨j + 1, y, by simpa using h1, h2, by rw [h3]; congr 1; omega⟩
theorem getD_at {L : List Pw} {k : Nat} (h : k < L.length) : L[k]? = some (L.getD k pw0) := by simp [List.getD, h]
theorem less_idx {L : List Pw} (hp : (idsP L).Pairwise (· < ·)) {j : Nat} {x : Pw} (h : L[j]? = some x) : lessP (idsP L) x.1.i = j := by
  have hm : x.1.i ∈ idsP L := List.mem_of_getElem? (idsP_get h)
  obtain ⟨h1, h2⟩ := less_get hp hm
  have h3 : lessP (idsP L) x.1.i < L.length := by simpa [idsP] using h1
  by_cases e : lessP (idsP L) x.1.i = j
  · exact e
  · rw [idsP_getD h3] at h2
    exact absurd h2 (pid_ne hp h (getD_at h3) e)
theorem fnd_less {L : List Pw} (hp : (idsP L).Pairwise (· < ·)) (q : Int) : ((idsP L).contains q = false ∧ fndF 0 L q = -1) ∨ ((idsP L).contains q = true ∧ fndF 0 L q = ((lessP (idsP L) q : Nat) : Int)) := by
  rcases fndF_at L 0 q with ⟨h1, h2⟩ | ⟨j, x, h1, h2, h3⟩
  · exact .inl ⟨by simpa using h2, h1⟩
  · refine .inr ⟨?_, ?_⟩
    · rw [← h2]
      simpa using List.mem_of_getElem? (idsP_get h1)
    · rw [h3, ← h2, less_idx hp h1, Nat.zero_add]
theorem par_run {L : List Pw} (hp : (idsP L).Pairwise (· < ·)) (x : Pw) : parB L x = false ↔ x.1.p = 0 ∨ runB L x.1.p = true := by
  unfold parB runB
  by_cases h0 : x.1.p = 0
  · simp [h0]
  · rw [show (x.1.p != 0) = true by simpa using h0, Bool.true_and]
    rcases fnd_less hp x.1.p with ⟨h1, h2⟩ | ⟨h1, h2⟩
    · rw [h1, h2]; simp [h0]
    · rw [h1, h2, Int.toNat_natCast, decide_eq_false (by omega), Bool.false_or, Bool.true_and]
      simp [h0]
theorem root_step {L : List Pw} (hp : (idsP L).Pairwise (· < ·)) (n : Nat) (q : Int) : rootR L (n + 1) q = (q == 0 || ((idsP L).contains q && rootR L n (L.getD (lessP (idsP L) q) pw0).1.p)) := by
  rw [rootR]
  rcases fnd_less hp q with ⟨h1, h2⟩ | ⟨h1, h2⟩
  · rw [h1, h2]; simp
  · rw [h1, h2, Int.toNat_natCast, decide_eq_true (by omega)]
theorem root_of_cm {L : List Pw} (hp : (idsP L).Pairwise (· < ·)) : ∀ (n : Nat) (q : Int), cmF L n q = true → rootR L n q = true
  | 0, _, h => h
  | n + 1, q, h => by
    rw [root_step hp]
    rw [cmF] at h
    by_cases h0 : q = 0
    · simp [h0]
    · rw [if_neg h0] at h
      split at h
      · rename_i h1
        have h2 : (idsP L).contains q = true := by unfold runB at h1; rw [Bool.and_eq_true] at h1; exact h1.1
        rw [h2, root_of_cm hp n _ h]
        simp
      · cases h
theorem cm_of_root {L : List Pw} (hp : (idsP L).Pairwise (· < ·)) (hr : ∀ x ∈ L, x.1.p = 0 ∨ runB L x.1.p = true) : ∀ (n : Nat) (q : Int), q = 0 ∨ runB L q = true → rootR L n q = true → cmF L n q = true
  | 0, _, _, h => h
  | n + 1, q, hq, h => by
    rw [root_step hp] at h
    rw [cmF]
    by_cases h0 : q = 0
    · rw [if_pos h0]
    · have h1 : runB L q = true := by rcases hq with e | e
                                      · exact absurd e h0
                                      · exact e
      have h2 : (idsP L).contains q = true := by unfold runB at h1; rw [Bool.and_eq_true] at h1; exact h1.1
      rw [if_neg h0, if_pos h1]
      rw [show (q == 0) = false by simpa using h0, Bool.false_or, h2, Bool.true_and] at h
      have hl := runB_lt hp h2
      refine cm_of_root hp hr n _ (hr _ ?_) h
      rw [show L.getD (lessP (idsP L) q) pw0 = L[lessP (idsP L) q] by simp [List.getD, hl]]
      exact List.getElem_mem hl
theorem rise_prev {L : List Pw} : upB (idsP L) = true ↔ ∀ (k : Nat) (x : Pw), L[k]? = some x → (decide (0 < k) && decide (x.1.i ≤ (L.getD (k - 1) pw0).1.i)) = false := by
  rw [upB_iff]
  constructor
  · intro h k x hk
    rcases Nat.eq_zero_or_pos k with h0 | h0
    · subst h0; rfl
    · have hl : k < L.length := (List.getElem?_eq_some_iff.1 hk).1
      have hj : L[k - 1]? = some L[k - 1] := by simp [show k - 1 < L.length by omega]
      obtain ⟨h1, e1⟩ := List.getElem?_eq_some_iff.1 (idsP_get hk)
      obtain ⟨h2, e2⟩ := List.getElem?_eq_some_iff.1 (idsP_get hj)
      have := List.pairwise_iff_getElem.1 h (k - 1) k h2 h1 (by omega)
      rw [e1, e2] at this
      rw [getD_some hj, decide_eq_false (show ¬ x.1.i ≤ L[k - 1].1.i by omega), Bool.and_false]
  · intro h
    have h2 : ∀ (d i : Nat) (hd : i + d + 1 < (idsP L).length), (idsP L)[i]'(by omega) < (idsP L)[i + d + 1] := by
      intro d
      induction d with
      | zero =>
        intro i hd
        have hl : i + 0 + 1 < L.length := by simpa [idsP] using hd
        have hk : L[i + 0 + 1]? = some L[i + 0 + 1] := by simp only [List.getElem?_eq_getElem hl]
        have hj : L[i]? = some (L[i]'(by omega)) := by simp [show i < L.length by omega]
        have := h _ _ hk
        rw [decide_eq_true (by omega), Bool.true_and, show i + 0 + 1 - 1 = i by omega, getD_some hj, decide_eq_false_iff_not] at this
        simp only [idsP, List.getElem_map]
        omega
      | succ d ih =>
        intro i hd
        have h1 := ih i (by omega)
        have hl : i + (d + 1) + 1 < L.length := by simpa [idsP] using hd
        have hk : L[i + (d + 1) + 1]? = some L[i + (d + 1) + 1] := by simp only [List.getElem?_eq_getElem hl]
        have hj : L[i + d + 1]? = some (L[i + d + 1]'(by omega)) := by simp [show i + d + 1 < L.length by omega]
        have := h _ _ hk
        rw [decide_eq_true (by omega), Bool.true_and, show i + (d + 1) + 1 - 1 = i + d + 1 by omega, getD_some hj, decide_eq_false_iff_not] at this
        simp only [idsP, List.getElem_map] at h1 ⊢
        omega
    refine List.pairwise_iff_getElem.2 fun i j hi hj hij => ?_
    have := h2 (j - i - 1) i (by omega)
    simpa [show i + (j - i - 1) + 1 = j by omega] using this
theorem tid_len (L : List Pw) : (tidF L).length = (thrF 0 L).length := by unfold tidF; rw [List.length_map]
theorem good_tk {a : Int} {U : List Int} {L : List Pw} (h : TkGood a U L) : tkE a U L = 0 := by
  unfold tkE
  rw [if_pos]
  simp only [Bool.and_eq_true, beq_iff_eq, Bool.not_eq_true']
  refine ⟨?_, ids_iff.2 h.ids, ?_, h.used, h.root⟩
  · unfold fewB
    rw [Bool.and_eq_true, decide_eq_true_iff, decide_eq_true_iff, thr_cnt 0]
    exact ⟨h.p6, h.n8⟩
  · unfold ordB
    rw [Bool.and_eq_true, List.all_eq_true]
    exact ⟨fun x hx => (upB_iff _).2 (h.tup x hx), (upB_iff _).2 h.pup⟩
theorem rgt_good {a : Int} {U : List Int} {L : List Pw} : rgtB a U L = true ↔ TkGood a U L := by
  unfold rgtB
  rw [Bool.and_eq_true, Bool.and_eq_true, decide_eq_true_iff, beq_iff_eq, ids_iff, rgtF_iff, Nat.zero_add, tid_len]
  simp only [Nat.zero_add]
  constructor
  · rintro ⟨h6, hi, hF, h8, hU⟩
    have hup : ∀ x ∈ L, x.1.t.Pairwise (· < ·) := fun x hx => by
      obtain ⟨k, hk, rfl⟩ := List.getElem_of_mem hx
      have := (hF k L[k] (by simp [hk])).1
      unfold headB at this
      simp only [Bool.or_eq_false_iff] at this
      exact (upB_iff _).1 (by simpa using this.1.1.1.2)
    have hpu : (idsP L).Pairwise (· < ·) := (upB_iff _).1 (rise_prev.2 fun k x hk => by
      have := (hF k x hk).1
      unfold headB at this
      simp only [Bool.or_eq_false_iff] at this
      exact this.1.1.1.1)
    have hsh : Sh L := (sh_iff L).1 fun k x hk => (hF k x hk).2.2
    have hnd := nodup_of_sh hup hpu hsh
    have hpar : ∀ x ∈ L, x.1.p = 0 ∨ runB L x.1.p = true := fun x hx => by
      obtain ⟨k, hk, rfl⟩ := List.getElem_of_mem hx
      exact (par_run hpu _).1 (hF k L[k] (by simp [hk])).2.1
    refine ⟨h6, by rw [← thr_cnt 0]; exact h8, hi, hup, hpu, ?_, ?_⟩
    · rw [hU]
      refine up_ext (withs_up _ _ List.Pairwise.nil) (sortZ_nd.2 hnd) fun y => ?_
      rw [withs_mem]
      show _ ↔ y ∈ sortZ (allD L)
      rw [sortZ_mem, mem_allD]
      simp
    · rw [List.any_eq_false]
      intro x hx
      obtain ⟨k, hk, rfl⟩ := List.getElem_of_mem hx
      have hh := (hF k L[k] (by simp [hk])).1
      unfold headB at hh
      simp only [Bool.or_eq_false_iff, Bool.not_eq_false'] at hh
      obtain ⟨⟨⟨⟨_, _⟩, h3⟩, h4⟩, h5⟩ := hh
      rw [root_step hpu, h5, Bool.false_or, Bool.and_eq_true] at h4
      rw [less_idx hpu (show L[k]? = some L[k] by simp [hk]), getD_some (show L[k]? = some L[k] by simp [hk])] at h4
      have hc := cm_of_root hpu hpar L.length _ (hpar _ hx) h4.2
      unfold rootB
      rw [h3, hc]
      simp
  · intro g
    have hnd : (allD L).Nodup := sortZ_nd.1 (by have := g.used; unfold idsF at this; unfold allD; rw [← this]; exact g.ids.up)
    have hsh := sh_of_nodup g.pup hnd
    have hU : U = withs [] (flatT L) := by
      rw [g.used]
      refine up_ext (sortZ_nd.2 hnd) (withs_up _ _ List.Pairwise.nil) fun y => ?_
      rw [withs_mem]
      show y ∈ sortZ (allD L) ↔ _
      rw [sortZ_mem, mem_allD]
      simp
    refine ⟨g.p6, g.ids, fun k x hk => ?_, by rw [thr_cnt 0]; exact g.n8, hU⟩
    have hx : x ∈ L := List.mem_of_getElem? hk
    have hr : rootB L x = false := by
      have := List.any_eq_false.1 g.root x hx
      simpa using this
    unfold rootB at hr
    rw [Bool.or_eq_false_iff, Bool.not_eq_false'] at hr
    have h0 : ¬ x.1.i = 0 := by
      have h1 : x.1.i ∈ U := by
        rw [hU, withs_mem]
        exact .inl (mem_flatT.2 (.inl (List.mem_of_getElem? (idsP_get hk))))
      have := (g.ids.m _ h1).1
      omega
    have hpr : x.1.p = 0 ∨ runB L x.1.p = true := by
      have h9 := hr.2
      have hl : L.length = (L.length - 1) + 1 := by have := (List.getElem?_eq_some_iff.1 hk).1; omega
      rw [hl, cmF] at h9
      by_cases hp0 : x.1.p = 0
      · exact .inl hp0
      · rw [if_neg hp0] at h9
        split at h9
        · rename_i h8; exact .inr h8
        · cases h9
    refine ⟨?_, (par_run g.pup x).2 hpr, (sh_iff L).2 hsh k x hk⟩
    unfold headB
    simp only [Bool.or_eq_false_iff, Bool.not_eq_false']
    refine ⟨⟨⟨⟨rise_prev.1 ((upB_iff _).2 g.pup) k x hk, (upB_iff _).2 (g.tup x hx)⟩, hr.1⟩, ?_⟩, by simpa using h0⟩
    rw [root_step g.pup, less_idx g.pup hk, getD_some hk, root_of_cm g.pup _ _ hr.2, show (idsP L).contains x.1.i = true by simpa using List.mem_of_getElem? (idsP_get hk)]
    simp
theorem rgt_eq (a : Int) (U : List Int) (L : List Pw) : rgtB a U L = (tkE a U L == 0) := by
  by_cases h : tkE a U L = 0
  · rw [rgt_good.2 (tk_good h)]; simp [h]
  · rw [show (tkE a U L == 0) = false by simpa using h]
    cases hr : rgtB a U L
    · rfl
    · exact absurd (good_tk (rgt_good.1 hr)) h
theorem kid_eq {L : List Pw} (hp : (idsP L).Pairwise (· < ·)) (pid : Int) : sortZ (kidF L pid) = kidF L pid := by
  have h : (kidF L pid).Pairwise (· < ·) := by
    unfold kidF
    rw [List.pairwise_map]
    unfold idsP at hp
    rw [List.pairwise_map] at hp
    exact hp.filter _
  exact List.mergeSort_of_pairwise (h.imp fun h9 => by simp; omega)
end Go.Proofs.YtlelhhgggnjndaaGreat
namespace Go.Proofs.YtlelhhgggnjndaaGreat
open Go.RowKit Go.Shelf Go.ChangeShapes
set_option linter.unusedVariables false
section
variable {H : Type} {enc : TypeId × Value → H} {w : World} {base : Nat} {spare : Nat → Bool} {held : Bool} {fuel : Nat} {x : DataW H × List MemPlace}
theorem zs_of {v : Value} (h : DataW.trod enc Tryz.prog w base spare held fuel 22 [v] = some x) : ∃ a l c zs, v = .slice a l c ∧ Ri7 w w.heap.size a zs ∧ l = zs.length ∧ l ≤ c ∧ c ≤ maxLen := by
  rcases open_ints Tryz.underlying22 Tryz.underlying3 (by kernel_rfl) h with ⟨hcs, _⟩ | ⟨p, l', c', zs, hcs, _, hl, hm, hz, _, hcell, hwz⟩
  · simp at hcs
    exact ⟨none, 0, 0, [], hcs, fun k hk => absurd hk (by simp), rfl, by omega, by simp [maxLen]⟩
  · simp at hcs
    have hlz : l' ≤ zs.length := by rw [hz]; split <;> omega
    refine ⟨some p, l', c', zs.take l', hcs, fun k hk => ?_, by rw [List.length_take]; omega, hl, hm⟩
    rw [List.length_take] at hk
    obtain ⟨e, hb, h⟩ := add_none (hcell k (by omega)) ⟨_, hcell 0 (by omega)⟩
    refine ⟨p.block, p.off, congrArg some e, hb, h.trans ?_⟩
    simp [List.getD, show k < l' by omega]
end
end Go.Proofs.YtlelhhgggnjndaaGreat
namespace Go.Proofs.YtlelhhgggnjndaaGreat
open Go.RowKit Go.Shelf Go.ChangeShapes
set_option linter.unusedVariables false
set_option linter.unusedSimpArgs false
structure Tx where
  a : Int
  Ua : Option Addr
  um : Nat
  uc : Nat
  U : List Int
  A : Option Addr
  m : Nat
  c : Nat
  L : List Pw
def txC (x : Tx) : Array Value := tkC x.a x.Ua x.um x.uc x.A x.m x.c
structure Pz (w : World) (B : Nat) (A : Option Addr) (L : List Pw) : Prop where
  at_ : ∀ k, k < L.length → ∃ b off, A = some ⟨b, off, none⟩ ∧ b < B ∧ w.rangeAt b (off + k * 3) (prC (L.getD k pw0)).toList
  tr : ∀ x ∈ L, Ri7 w B x.2.1 x.1.t ∧ x.1.t.length ≤ x.2.2 ∧ x.2.2 ≤ maxLen
structure TxI (w : World) (B : Nat) (x : Tx) : Prop where
  u : Ri7 w B x.Ua x.U
  ul : x.um = x.U.length
  uc : x.um ≤ x.uc
  ux : x.uc ≤ maxLen
  p : Pz w B x.A x.L
  pl : x.m = x.L.length
  pc : x.m ≤ x.c
  px : x.c ≤ maxLen
section
variable {w w' : World} {B B' : Nat} {A : Option Addr} {L : List Pw} {x : Tx}
theorem Pz.below (h : Pz w B A L) (hb : Below B' w w') (hB : B ≤ B') : Pz w' B A L := ⟨fun k hk => by
  obtain ⟨b, off, e, h1, h2⟩ := h.at_ k hk
  exact ⟨b, off, e, h1, range_belowT h2 hb (Nat.lt_of_lt_of_le h1 hB)⟩, fun x hx => ⟨(h.tr x hx).1.below hb hB, (h.tr x hx).2⟩⟩
theorem Pz.more (h : Pz w B A L) (hB : B ≤ B') : Pz w B' A L := ⟨fun k hk => by
  obtain ⟨b, off, e, h1, h2⟩ := h.at_ k hk
  exact ⟨b, off, e, by omega, h2⟩, fun x hx => ⟨(h.tr x hx).1.more hB, (h.tr x hx).2⟩⟩
theorem TxI.below (h : TxI w B x) (hb : Below B' w w') (hB : B ≤ B') : TxI w' B x := ⟨h.u.below hb hB, h.ul, h.uc, h.ux, h.p.below hb hB, h.pl, h.pc, h.px⟩
theorem TxI.more (h : TxI w B x) (hB : B ≤ B') : TxI w B' x := ⟨h.u.more hB, h.ul, h.uc, h.ux, h.p.more hB, h.pl, h.pc, h.px⟩
end
section
variable {H : Type} {enc : TypeId × Value → H} {w : World} {base : Nat} {spare : Nat → Bool} {held : Bool} {fuel : Nat} {x : DataW H × List MemPlace}
set_option maxRecDepth 100000 in
theorem procs_of {v : Value} (h : DataW.trod enc Tryz.prog w base spare held fuel 25 [v] = some x) : ∃ a l c L, v = .slice a l c ∧ Pz w w.heap.size a L ∧ l = L.length ∧ l ≤ c ∧ c ≤ maxLen := by
  have hv : ∃ a l c, v = .slice a l c := by
    rcases Go.Deep.open_slice Tryz.underlying25 h with ⟨hcs, _⟩ | ⟨p, l', c', m, n, D, Pl, hcs, _⟩
    · simp at hcs; exact ⟨_, _, _, hcs⟩
    · simp at hcs; exact ⟨_, _, _, hcs⟩
  obtain ⟨a, l, c, rfl⟩ := hv
  rcases Go.Deep.open_slice Tryz.underlying25 h with ⟨hcs, _⟩ | ⟨p, l', c', m, n, D, Pl, hcs, _, hl, hm, hmm, _, hel⟩
  · simp at hcs
    obtain ⟨rfl, rfl, rfl⟩ := hcs
    exact ⟨none, 0, 0, [], rfl, ⟨fun k hk => absurd hk (by simp), fun x hx => (by cases hx)⟩, rfl, by omega, by simp [maxLen]⟩
  · simp at hcs
    obtain ⟨rfl, rfl, rfl⟩ := hcs
    have hlm : l ≤ m := by rw [hmm]; split <;> omega
    have hc3 : Tryz.prog.cellsOf 49 = 3 := by kernel_rfl
    have hci : Tryz.prog.cellsOf 3 = 1 := by kernel_rfl
    have hcs : Tryz.prog.cellsOf 22 = 1 := by kernel_rfl
    rw [hc3] at hel
    have each : ∀ i, i < l → ∃ q : Pw, (∀ j v, (prC q).toList[j]? = some v → w.cell? ((p.add (i * 3)).add j) = some v) ∧ (Ri7 w w.heap.size q.2.1 q.1.t ∧ q.1.t.length ≤ q.2.2 ∧ q.2.2 ≤ maxLen) := by
      intro i hi
      obtain ⟨cs', h1, h2⟩ := hel i (by omega)
      obtain ⟨_, hlen, hcell⟩ := World.cells?_some h1
      obtain ⟨xs, n', _, _, _, hxl, hf⟩ := DataW.trod_struct Tryz.underlying49 h2
      match cs', hlen, xs, hxl with
      | [v0, v1, v2], _, [y0, y1, y2], _ =>
        have t0 := hf 0 _ rfl
        have t1 := hf 1 _ rfl
        have t2 := hf 2 _ rfl
        simp [hci] at t0 t1
        simp [hcs] at t2
        obtain ⟨q0, e0, _, f0⟩ := DataW.trod_int Tryz.underlying3 t0
        obtain ⟨q1, e1, _, f1⟩ := DataW.trod_int Tryz.underlying3 t1
        obtain ⟨pa, pl, pc, zs, e2, hr, hle, hlc, hlx⟩ := zs_of t2
        simp only [List.cons.injEq, and_true] at e0 e1
        subst e0 e1 e2 hle
        refine ⟨(⟨q0, q1, zs⟩, (pa, pc)), fun j v hv => ?_, hr, hlc, hlx⟩
        have hj : j < 3 := by
          rcases Nat.lt_or_ge j 3 with h | h
          · exact h
          · rw [List.getElem?_eq_none (by rw [Array.length_toList, pr_size]; exact h)] at hv; cases hv
        have := hcell j (by omega)
        rw [this]
        exact hv
    haveI : Inhabited Pw := ⟨pw0⟩
    obtain ⟨q, hq⟩ := Go.Deep.choose_lt each
    refine ⟨_, _, _, (List.range l).map q, rfl, ⟨fun k hk => ?_, fun y hy => ?_⟩, by simp, hl, by omega⟩
    · have hkl : k < l := by simpa using hk
      have e0 : ((List.range l).map q).getD k pw0 = q k := by simp [List.getD, hkl]
      rw [e0]
      have z : ∃ v0, w.cell? (p.add 0) = some v0 := ⟨_, by
        have := (hq 0 (by omega)).1 0 (.int .i64 (q 0).1.i) rfl
        rw [Go.Deep.add_add] at this
        simpa using this⟩
      have a0 := (hq k hkl).1 0 (.int .i64 (q k).1.i) rfl
      rw [Go.Deep.add_add] at a0
      obtain ⟨ea, hb, _⟩ := add_none a0 z
      refine ⟨p.block, p.off, congrArg some ea, hb, fun j v hv => ?_⟩
      have := (hq k hkl).1 j v hv
      rw [Go.Deep.add_add] at this
      have h3 := (add_none this z).2.2
      rwa [← Nat.add_assoc] at h3
    · obtain ⟨k, hk, rfl⟩ := List.mem_map.1 hy
      exact (hq k (by simpa using hk)).2
theorem tasks1_of {v0 v1 v2 : Value} (h : DataW.trod enc Tryz.prog w base spare held fuel 27 [v0, v1, v2] = some x) : ∃ q : Tx, txC q = #[v0, v1, v2] ∧ TxI w w.heap.size q := by
  have hci : Tryz.prog.cellsOf 3 = 1 := by kernel_rfl
  have hcs : Tryz.prog.cellsOf 22 = 1 := by kernel_rfl
  have hcp : Tryz.prog.cellsOf 25 = 1 := by kernel_rfl
  have hcd : Tryz.prog.cellsOf 24 = 2 := by kernel_rfl
  obtain ⟨xs, n', _, _, _, hxl, hf⟩ := DataW.trod_struct Tryz.underlying27 h
  match xs, hxl with
  | [y0, y1], _ =>
    have t0 := hf 0 _ rfl
    have t1 := hf 1 _ rfl
    simp [hcd] at t0
    simp [hcd, hcp] at t1
    obtain ⟨xs2, n2, _, _, _, hxl2, hf2⟩ := DataW.trod_struct Tryz.underlying24 t0
    match xs2, hxl2 with
    | [u0, u1], _ =>
      have s0 := hf2 0 _ rfl
      have s1 := hf2 1 _ rfl
      simp [hci] at s0
      simp [hci, hcs] at s1
      obtain ⟨q0, e0, _, _⟩ := DataW.trod_int Tryz.underlying3 s0
      obtain ⟨ua, um, uc, zs, e1, hr, hle, hlc, hlx⟩ := zs_of s1
      obtain ⟨a, l, c, L, e2, hp, hpl, hpc, hpx⟩ := procs_of t1
      simp only [List.cons.injEq, and_true] at e0
      subst e0 e1 e2
      exact ⟨⟨q0, ua, um, uc, zs, a, l, c, L⟩, rfl, ⟨hr, hle, hlc, hlx, hp, hpl, hpc, hpx⟩⟩
end
end Go.Proofs.YtlelhhgggnjndaaGreat
