/-
  The reference's Take.
-/
import Derived.Test.YtfohifnbohdbcaaQScRg
import Derived.Test.YtfohifnbohdbcaaQScZ
import Derived.Test.YtfohifnbohdbcaaQScGi
import Derived.Test.YtfohifnbohdbcaaQScOv
import Derived.Test.YtfohifnbohdbcaaQScRf
import Derived.Test.YtfohifnbohdbcaaQScPs
import Derived.Test.YtfohifnbohdbcaaQScLc
import Derived.Test.YtfohifnbohdbcaaQScRs
import Derived.Deep.CutRange
import Derived.Deep.CutBlock
namespace Go.Proofs.Ytfohifnbohdbcaa
open Go.RowKit Go.Shelf
set_option linter.unusedVariables false
set_option linter.unusedSimpArgs false
theorem riseT_lenE {t : Int} : ∀ {l : List Int} {p : Int}, riseT t p l = true → p ≤ t → (l.length : Int) ≤ t - p
  | [], p, _, h => by simp; omega
  | x :: l, p, h, hp => by
    rw [riseT, Bool.and_eq_true, Bool.and_eq_true, decide_eq_true_iff, decide_eq_true_iff] at h
    obtain ⟨h1, h2, h3⟩ := h
    have := riseT_lenE h3 h2
    rw [List.length_cons]; omega
def okR (L : List Kw) (x : Rn) : Bool := decide (0 ≤ x.s) && (decide (x.s ≤ 2) && (decide (0 ≤ x.n) && (decide (x.n ≤ 40) && qOkB (cntA L x.i) (cntO L x.n x.i) x)))
theorem runsB_iff (L : List Kw) : ∀ (R : List Rn) (i : Nat) (p : Int), (0 < i → 0 ≤ p) → (runsB L i p R = (riseT 20 (if i = 0 then 0 else p) (numsR R) && R.all (okR L)))
  | [], i, p, _ => rfl
  | x :: R, i, p, hp => by
    have h0 := runsB_iff L R (i + 1) x.i
    rw [runsB]
    show _ = (riseT 20 (if i = 0 then 0 else p) (x.i :: numsR R) && _)
    rw [riseT, List.all_cons]
    by_cases hb : badR i p x = true
    · rw [hb, Bool.not_true, Bool.false_and]
      symm
      rw [Bool.eq_false_iff]
      intro hc
      simp only [Bool.and_eq_true, decide_eq_true_iff, okR] at hc
      simp only [badR, Bool.or_eq_true, Bool.and_eq_true, decide_eq_true_iff] at hb
      obtain ⟨⟨c1, c2, _⟩, ⟨c3, c4, c5, c6, _⟩, _⟩ := hc
      by_cases hi : i = 0
      · rw [if_pos hi] at c1; omega
      · rw [if_neg hi] at c1
        have := hp (by omega)
        omega
    · have hb' : badR i p x = false := by simpa using hb
      rw [hb', Bool.not_false, Bool.true_and]
      have hg : (1 ≤ x.i ∧ x.i ≤ 20 ∧ (0 < i → p < x.i)) ∧ (0 ≤ x.s ∧ x.s ≤ 2 ∧ 0 ≤ x.n ∧ x.n ≤ 40) := by
        rw [Bool.eq_false_iff] at hb'
        simp only [badR, Bool.or_eq_true, Bool.and_eq_true, decide_eq_true_iff, ne_eq, not_or, not_and] at hb'
        refine ⟨⟨by omega, by omega, fun h => ?_⟩, by omega, by omega, by omega, by omega⟩
        have := hb'.2.2.1 h
        omega
      obtain ⟨⟨g1, g2, g3⟩, g4, g5, g6, g7⟩ := hg
      rw [h0 (fun _ => by omega), if_neg (by omega)]
      have e1 : okR L x = qOkB (cntA L x.i) (cntO L x.n x.i) x := by simp [okR, g4, g5, g6, g7]
      have e2 : decide ((if i = 0 then 0 else p) < x.i) = true := by
        by_cases hi : i = 0
        · rw [if_pos hi]; exact decide_eq_true (by omega)
        · rw [if_neg hi]; exact decide_eq_true (g3 (by omega))
      rw [e1, e2, decide_eq_true g2, Bool.true_and, Bool.true_and]
      cases qOkB (cntA L x.i) (cntO L x.n x.i) x <;> cases riseT 20 x.i (numsR R) <;> cases R.all (okR L) <;> rfl
def okK (R : List Rn) (x : Kw) : Bool := ownKB R x && x.1.q.all (thereB R)
theorem locksB_iff (R : List Rn) : ∀ (L : List Kw) (i : Nat) (p : Int), (0 < i → 0 ≤ p) → (locksB R i p L = (riseT 40 (if i = 0 then 0 else p) (numsK L) && L.all (okK R)))
  | [], i, p, _ => rfl
  | x :: L, i, p, hp => by
    have h0 := locksB_iff R L (i + 1) x.1.n
    rw [locksB]
    show _ = (riseT 40 (if i = 0 then 0 else p) (x.1.n :: numsK L) && _)
    rw [riseT, List.all_cons]
    by_cases hb : badK i p x = true
    · rw [hb, Bool.not_true, Bool.false_and]
      symm
      rw [Bool.eq_false_iff]
      intro hc
      simp only [Bool.and_eq_true, decide_eq_true_iff] at hc
      simp only [badK, Bool.or_eq_true, Bool.and_eq_true, decide_eq_true_iff] at hb
      obtain ⟨⟨c1, c2, _⟩, _⟩ := hc
      by_cases hi : i = 0
      · rw [if_pos hi] at c1; omega
      · rw [if_neg hi] at c1
        have := hp (by omega)
        omega
    · have hb' : badK i p x = false := by simpa using hb
      rw [hb', Bool.not_false, Bool.true_and]
      have hg : 1 ≤ x.1.n ∧ x.1.n ≤ 40 ∧ (0 < i → p < x.1.n) := by
        rw [Bool.eq_false_iff] at hb'
        simp only [badK, Bool.or_eq_true, Bool.and_eq_true, decide_eq_true_iff, ne_eq, not_or, not_and] at hb'
        refine ⟨by omega, by omega, fun h => ?_⟩
        have := hb'.2.2 h
        omega
      obtain ⟨g1, g2, g3⟩ := hg
      rw [h0 (fun _ => by omega), if_neg (by omega)]
      have e2 : decide ((if i = 0 then 0 else p) < x.1.n) = true := by
        by_cases hi : i = 0
        · rw [if_pos hi]; exact decide_eq_true (by omega)
        · rw [if_neg hi]; exact decide_eq_true (g3 (by omega))
      rw [e2, decide_eq_true g2, Bool.true_and, Bool.true_and, okK]
      cases ownKB R x <;> cases x.1.q.all (thereB R) <;> cases riseT 40 x.1.n (numsK L) <;> cases L.all (okK R) <;> rfl
theorem ownKB_eq (R : List Rn) (x : Kw) : ownKB R x = ownB R x := by
  unfold ownKB ownB livesB fndR
  have e : (x.1.q.count x.1.o == 0) = !(x.1.q.contains x.1.o) := by
    rw [Bool.eq_iff_iff]
    simp [List.count_eq_zero]
  rw [e]
  cases runF R x.1.o <;> simp
def allQ (L : List Kw) : List Int := L.flatMap fun k => k.1.q
theorem cntA_all (L : List Kw) (id : Int) : cntA L id = (allQ L).count id := by
  unfold cntA allQ
  induction L with
  | nil => rfl
  | cons x L ih => rw [List.map_cons, List.sum_cons, List.flatMap_cons, List.count_append, ih]
theorem lensK_all (L : List Kw) : lensK L = (allQ L).length := by
  unfold lensK allQ
  induction L with
  | nil => rfl
  | cons x L ih => rw [List.map_cons, List.sum_cons, List.flatMap_cons, List.length_append, ih]
theorem cntO_le (L : List Kw) (n id : Int) : cntO L n id ≤ cntA L id := by
  unfold cntO cntA
  induction L with
  | nil => exact Nat.le_refl _
  | cons x L ih =>
    simp only [List.map_cons, List.sum_cons]
    split <;> omega
theorem cntO_all {L : List Kw} {n id : Int} (h : cntA L id ≤ cntO L n id) : ∀ k ∈ L, id ∈ k.1.q → k.1.n = n := by
  induction L with
  | nil => intro k hk; cases hk
  | cons x L ih =>
    have h1 := cntO_le L n id
    have e1 : cntA (x :: L) id = x.1.q.count id + cntA L id := by simp [cntA]
    have e2 : cntO (x :: L) n id = (if (x.1.n == n) = true then x.1.q.count id else 0) + cntO L n id := by simp [cntO]
    rw [e1, e2] at h
    intro k hk hid
    rcases List.mem_cons.1 hk with rfl | hk
    · by_cases hn : k.1.n = n
      · exact hn
      · rw [if_neg (by simpa using hn)] at h
        have := List.count_pos_iff.2 hid
        omega
    · refine ih ?_ k hk hid
      split at h <;> omega
theorem cntO_of {L : List Kw} {n id : Int} (h : ∀ k ∈ L, id ∈ k.1.q → k.1.n = n) : cntO L n id = cntA L id := by
  induction L with
  | nil => rfl
  | cons x L ih =>
    have e1 : cntA (x :: L) id = x.1.q.count id + cntA L id := by simp [cntA]
    have e2 : cntO (x :: L) n id = (if (x.1.n == n) = true then x.1.q.count id else 0) + cntO L n id := by simp [cntO]
    rw [e1, e2, ih (fun k hk => h k (List.mem_cons_of_mem _ hk))]
    by_cases hn : x.1.n = n
    · rw [if_pos (by simpa using hn)]
    · rw [if_neg (by simpa using hn), List.count_eq_zero.2 (fun hid => hn (h x (List.mem_cons_self ..) hid))]
theorem qB_iff (R : List Rn) (n : Int) : ∀ (q p : List Int), qB R n p q = true ↔ (∀ id ∈ q, wfB R n id = true ∧ id ∉ p) ∧ q.Nodup
  | [], p => by simp [qB]
  | x :: q, p => by
    rw [qB, Bool.and_eq_true, Bool.and_eq_true, qB_iff R n q (p ++ [x]), List.nodup_cons]
    constructor
    · rintro ⟨h1, h2, h3, h4⟩
      refine ⟨fun id hid => ?_, fun hx => ?_, h4⟩
      · rcases List.mem_cons.1 hid with rfl | hid
        · exact ⟨h1, by simpa using h2⟩
        · exact ⟨(h3 id hid).1, fun hp => (h3 id hid).2 (List.mem_append_left _ hp)⟩
      · exact (h3 x hx).2 (by simp)
    · rintro ⟨h1, h2, h4⟩
      refine ⟨(h1 x (List.mem_cons_self ..)).1, by simpa using (h1 x (List.mem_cons_self ..)).2, fun id hid => ⟨(h1 id (List.mem_cons_of_mem _ hid)).1, fun hp => ?_⟩, h4⟩
      rcases List.mem_append.1 hp with hp | hp
      · exact (h1 id (List.mem_cons_of_mem _ hid)).2 hp
      · rw [List.mem_singleton.1 hp] at hid; exact h2 hid
theorem runF_mem {R : List Rn} {x : Rn} (hu : UpR R) (hx : x ∈ R) : runF R x.i = some x := by
  unfold runF
  induction R with
  | nil => cases hx
  | cons y R ih =>
    have hu' : (y.i :: numsR R).Pairwise (· < ·) := hu
    rw [List.pairwise_cons] at hu'
    rw [List.find?_cons]
    rcases List.mem_cons.1 hx with rfl | hx
    · simp
    · have hne : (y.i == x.i) = false := by
        have := hu'.1 x.i (List.mem_map.2 ⟨x, hx, rfl⟩)
        simp; omega
      rw [hne]
      exact ih hu'.2 hx
theorem runF_is {R : List Rn} {id : Int} {x : Rn} (h : runF R id = some x) : x ∈ R ∧ x.i = id := by
  refine ⟨List.mem_of_find?_eq_some h, ?_⟩
  have := List.find?_some h
  simpa using this
theorem sub_len : ∀ {Q W : List Int}, Q.Nodup → (∀ x ∈ Q, x ∈ W) → Q.length ≤ W.length
  | [], W, _, _ => Nat.zero_le _
  | x :: Q, W, hn, hs => by
    rw [List.nodup_cons] at hn
    have hx := hs x (List.mem_cons_self ..)
    have h1 : ∀ y ∈ Q, y ∈ W.erase x := fun y hy => (List.mem_erase_of_ne (fun e : y = x => hn.1 (by rw [← e]; exact hy))).2 (hs y (List.mem_cons_of_mem _ hy))
    have h2 := sub_len hn.2 h1
    rw [List.length_erase_of_mem hx] at h2
    have := List.length_pos_of_mem hx
    rw [List.length_cons]; omega
theorem sub_back {Q W : List Int} (hn : Q.Nodup) (hs : ∀ x ∈ Q, x ∈ W) (hl : W.length ≤ Q.length) : ∀ x ∈ W, x ∈ Q := fun x hx => by
  apply Classical.byContradiction
  intro h
  have := sub_len (Q := x :: Q) (W := W) (List.nodup_cons.2 ⟨h, hn⟩) (fun y hy => by
    rcases List.mem_cons.1 hy with rfl | hy
    · exact hx
    · exact hs y hy)
  rw [List.length_cons] at this; omega
def waitsL (R : List Rn) : List Int := (R.filter waitB).map (·.i)
theorem waitsL_len (R : List Rn) : (waitsL R).length = R.countP waitB := by unfold waitsL; rw [List.length_map, List.countP_eq_length_filter]
theorem waitsL_nodup {R : List Rn} (hu : UpR R) : (waitsL R).Nodup := by
  have h1 : (waitsL R).Sublist (numsR R) := List.filter_sublist.map _
  exact (hu.sublist h1).imp (fun h => by omega)
theorem nodup_count {Q : List Int} (h : ∀ x ∈ Q, Q.count x = 1) : Q.Nodup := by
  rw [List.nodup_iff_count]
  intro x
  by_cases hx : x ∈ Q
  · rw [h x hx]; exact Nat.le_refl _
  · rw [List.count_eq_zero.2 hx]; exact Nat.zero_le _
theorem mem_allQ {L : List Kw} {id : Int} : id ∈ allQ L ↔ ∃ k ∈ L, id ∈ k.1.q := List.mem_flatMap
theorem wfB_iff {R : List Rn} {n id : Int} : wfB R n id = true ↔ runF R id = some ⟨id, 1, n⟩ := by
  unfold wfB
  cases hr : runF R id with
  | none => simp
  | some x =>
    obtain ⟨xi, xs, xn⟩ := x
    simp only [sameR, Bool.and_eq_true, beq_iff_eq, Option.some.injEq, Rn.mk.injEq]
theorem que_iff {R : List Rn} {L : List Kw} (hR : riseT 20 0 (numsR R) = true) (hK : riseT 40 0 (numsK L) = true) :
    ((∀ x ∈ R, okR L x = true) ∧ ∀ k ∈ L, k.1.q.all (thereB R) = true) ↔ (R.any strB = false ∧ queB R L = true) := by
  have uR : UpR R := (riseT_up hR).1
  have uK : UpK L := (riseT_up hK).1
  have lK : ∀ k ∈ L, 1 ≤ k.1.n ∧ k.1.n ≤ 40 := fun k hk => by
    have := (riseT_up hK).2 k.1.n (List.mem_map.2 ⟨k, hk, rfl⟩)
    omega
  constructor
  · rintro ⟨h1, h2⟩
    have hs : ∀ x ∈ R, (0 ≤ x.s ∧ x.s ≤ 2 ∧ 0 ≤ x.n ∧ x.n ≤ 40) ∧ (x.s = 1 → x.n ≠ 0 ∧ cntA L x.i = 1 ∧ cntO L x.n x.i = 1) ∧ (x.s ≠ 1 → x.n = 0 ∧ cntA L x.i = 0) := fun x hx => by
      have h3 := h1 x hx
      simp only [okR, qOkB, Bool.and_eq_true, decide_eq_true_iff] at h3
      obtain ⟨a1, a2, a3, a4, a5⟩ := h3
      refine ⟨⟨a1, a2, a3, a4⟩, fun e => ?_, fun e => ?_⟩
      · rw [if_pos (by simpa using e)] at a5
        simpa using a5
      · rw [if_neg (by simpa using e)] at a5
        simpa using a5
    
    have hw : ∀ k ∈ L, ∀ id ∈ k.1.q, ∃ x ∈ R, x.i = id ∧ runF R id = some x ∧ x.s = 1 ∧ x.n = k.1.n ∧ (allQ L).count id = 1 := fun k hk id hid => by
      have h3 := List.all_eq_true.1 (h2 k hk) id hid
      unfold thereB fndR at h3
      cases hr : runF R id with
      | none => rw [hr] at h3; cases h3
      | some x =>
        obtain ⟨hx, rfl⟩ := runF_is hr
        obtain ⟨_, h4, h5⟩ := hs x hx
        have h6 : 0 < cntA L x.i := by
          rw [cntA_all]
          exact List.count_pos_iff.2 (mem_allQ.2 ⟨k, hk, hid⟩)
        have h7 : x.s = 1 := by
          apply Classical.byContradiction
          intro hne
          have := (h5 hne).2
          omega
        obtain ⟨_, h8, h9⟩ := h4 h7
        exact ⟨x, hx, rfl, rfl, h7, (cntO_all (by omega) k hk hid).symm, by rw [← cntA_all]; exact h8⟩
    have hn : (allQ L).Nodup := nodup_count fun id hid => by
      obtain ⟨k, hk, h3⟩ := mem_allQ.1 hid
      obtain ⟨_, _, _, _, _, _, h4⟩ := hw k hk id h3
      exact h4
    refine ⟨?_, ?_⟩
    · rw [List.any_eq_false]
      intro x hx
      obtain ⟨⟨a1, a2, _, _⟩, _, h5⟩ := hs x hx
      simp only [strB, waitB, Bool.or_eq_true, Bool.and_eq_true, decide_eq_true_iff, Bool.not_eq_true', beq_eq_false_iff_ne, bne_iff_ne, not_or, not_and, ne_eq]
      exact ⟨by omega, by omega, fun h6 h7 => h6 (h5 h7).1⟩
    · unfold queB
      rw [Bool.and_eq_true]
      constructor
      · rw [List.all_eq_true]
        intro k hk
        unfold lockQ
        rw [qB_iff]
        refine ⟨fun id hid => ⟨?_, by simp⟩, ?_⟩
        · obtain ⟨x, hx, e1, e2, e3, e4, _⟩ := hw k hk id hid
          rw [wfB_iff, e2]
          obtain ⟨xi, xs, xn⟩ := x
          simp only at e1 e3 e4
          rw [e1, e3, e4]
        · exact List.Nodup.sublist (by
            obtain ⟨s, t, rfl⟩ := List.append_of_mem hk
            unfold allQ
            rw [List.flatMap_append, List.flatMap_cons]
            exact (List.sublist_append_left _ _).trans (List.sublist_append_right _ _)) hn
      · have e : (allQ L).length = (waitsL R).length := by
          apply Nat.le_antisymm
          · refine sub_len hn fun id hid => ?_
            obtain ⟨k, hk, h3⟩ := mem_allQ.1 hid
            obtain ⟨x, hx, e1, e2, e3, e4, _⟩ := hw k hk id h3
            exact List.mem_map.2 ⟨x, List.mem_filter.2 ⟨hx, by simp [waitB, e3]⟩, e1⟩
          · refine sub_len (waitsL_nodup uR) fun id hid => ?_
            obtain ⟨x, hx, rfl⟩ := List.mem_map.1 hid
            obtain ⟨hx, h3⟩ := List.mem_filter.1 hx
            have h4 := ((hs x hx).2.1 (by simpa [waitB] using h3)).2.1
            rw [cntA_all] at h4
            exact List.count_pos_iff.1 (by omega)
        rw [lensK_all, e, waitsL_len]
        simp
  · rintro ⟨h1, h2⟩
    unfold queB at h2
    rw [Bool.and_eq_true, List.all_eq_true] at h2
    obtain ⟨h2, h3⟩ := h2
    have hw : ∀ k ∈ L, ∀ id ∈ k.1.q, runF R id = some ⟨id, 1, k.1.n⟩ := fun k hk id hid => by
      have := h2 k hk
      unfold lockQ at this
      rw [qB_iff] at this
      exact wfB_iff.1 (this.1 id hid).1
    have hn : (allQ L).Nodup := by
      unfold allQ
      rw [show (List.flatMap (fun k : Kw => k.1.q) L).Nodup ↔ _ from List.pairwise_flatMap]
      refine ⟨fun k hk => ?_, ?_⟩
      · have := h2 k hk
        unfold lockQ at this
        rw [qB_iff] at this
        exact this.2
      · have h4 : L.Pairwise (fun a b => a.1.n < b.1.n) := List.pairwise_map.1 uK
        refine List.Pairwise.imp_of_mem ?_ h4
        intro a b ha hb hlt x hx y hy e
        subst e
        have e1 := hw a ha x hx
        rw [hw b hb x hy] at e1
        simp only [Option.some.injEq, Rn.mk.injEq, true_and] at e1
        omega
    have hsub : ∀ id ∈ allQ L, id ∈ waitsL R := fun id hid => by
      obtain ⟨k, hk, h4⟩ := mem_allQ.1 hid
      have h5 := hw k hk id h4
      exact List.mem_map.2 ⟨_, List.mem_filter.2 ⟨(runF_is h5).1, rfl⟩, rfl⟩
    have hback := sub_back hn hsub (by
      rw [waitsL_len, ← lensK_all]
      have : (R.countP waitB : Int) - (lensK L : Nat) = 0 := by simpa using h3
      omega)
    rw [List.any_eq_false] at h1
    refine ⟨fun x hx => ?_, fun k hk => ?_⟩
    · have h4 := h1 x hx
      simp only [strB, waitB, Bool.or_eq_true, Bool.and_eq_true, decide_eq_true_iff, Bool.not_eq_true', beq_eq_false_iff_ne, bne_iff_ne, not_or, not_and, ne_eq] at h4
      obtain ⟨a1, a2, a3⟩ := h4
      have hr := runF_mem uR hx
      unfold okR qOkB
      by_cases hs : x.s = 1
      · have hin := hback x.i (List.mem_map.2 ⟨x, List.mem_filter.2 ⟨hx, by simp [waitB, hs]⟩, rfl⟩)
        obtain ⟨k, hk, h5⟩ := mem_allQ.1 hin
        have h6 := hw k hk x.i h5
        rw [hr] at h6
        have h7 : x.n = k.1.n := by
          have := congrArg (Option.map Rn.n) h6
          simpa using this
        have h8 := lK k hk
        have h9 : cntA L x.i = 1 := by
          rw [cntA_all]
          have := List.nodup_iff_count.1 hn x.i
          have := List.count_pos_iff.2 hin
          omega
        have h10 : cntO L x.n x.i = 1 := by
          rw [cntO_of fun k' hk' h' => ?_, h9]
          have h11 := hw k' hk' x.i h'
          rw [hr] at h11
          have := congrArg (Option.map Rn.n) h11
          simp at this
          exact this.symm
        rw [if_pos (by simpa using hs), h9, h10]
        simp only [Bool.and_eq_true, decide_eq_true_iff]
        exact ⟨by omega, by omega, by omega, by omega, by simp; omega⟩
      · have h5 : x.n = 0 := by
          apply Classical.byContradiction
          intro h; exact (a3 h) hs
        have h6 : cntA L x.i = 0 := by
          rw [cntA_all, List.count_eq_zero]
          intro hid
          obtain ⟨k, hk, h7⟩ := mem_allQ.1 hid
          have h8 := hw k hk x.i h7
          rw [hr] at h8
          have := congrArg (Option.map Rn.s) h8
          simp at this
          exact hs this
        rw [if_neg (by simpa using hs), h5, h6]
        simp only [Bool.and_eq_true, decide_eq_true_iff]
        exact ⟨by omega, by omega, by omega, by omega, by simp⟩
    · rw [List.all_eq_true]
      intro id hid
      unfold thereB fndR
      rw [hw k hk id hid]
theorem right_eq (R : List Rn) (L : List Kw) : rightB R L = schB R L := by
  unfold rightB schB
  rw [runsB_iff L R 0 0 (by simp), locksB_iff R L 0 0 (by simp), if_pos rfl]
  have eo : L.all (okK R) = (L.all (ownB R) && L.all fun k => k.1.q.all (thereB R)) := by
    rw [Bool.eq_iff_iff, Bool.and_eq_true]
    simp only [List.all_eq_true, okK, Bool.and_eq_true, ownKB_eq]
    exact ⟨fun h => ⟨fun x hx => (h x hx).1, fun x hx => (h x hx).2⟩, fun h x hx => ⟨h.1 x hx, h.2 x hx⟩⟩
  rw [eo]
  by_cases hR : riseT 20 0 (numsR R) = true
  · by_cases hK : riseT 40 0 (numsK L) = true
    · have hl : decide (L.length ≤ 40) = true := by
        have := riseT_lenE hK (by omega)
        rw [show (numsK L).length = L.length by simp [numsK]] at this
        exact decide_eq_true (by omega)
      have hq := que_iff hR hK
      rw [hR, hK, hl, Bool.true_and, Bool.true_and, Bool.true_and, Bool.true_and, Bool.true_and]
      have e2 : (R.all (okR L) && L.all fun k => k.1.q.all (thereB R)) = (!(R.any strB) && queB R L) := by
        rw [Bool.eq_iff_iff, Bool.and_eq_true, Bool.and_eq_true, List.all_eq_true, List.all_eq_true, Bool.not_eq_true']
        exact hq
      revert e2
      generalize R.all (okR L) = a
      generalize (L.all fun k => k.1.q.all (thereB R)) = b
      generalize (!(R.any strB)) = c
      generalize queB R L = d
      generalize L.all (ownB R) = f
      cases a <;> cases b <;> cases c <;> cases d <;> cases f <;> simp
    · have hK' : riseT 40 0 (numsK L) = false := by simpa using hK
      rw [hK']
      simp
  · have hR' : riseT 20 0 (numsR R) = false := by simpa using hR
    rw [hR']
    simp
end Go.Proofs.Ytfohifnbohdbcaa
namespace Go.Proofs.Ytfohifnbohdbcaa
open Go.RowKit Go.Shelf
set_option linter.unusedVariables false
set_option linter.unusedSimpArgs false
def Thr (R : List Rn) (K : List Kn) : Prop := (∀ x ∈ K, ∀ i ∈ x.q, (numsR R).contains i = true) ∧ (numsR R).contains 0 = false
theorem thr_of {R : List Rn} {L : List Kw} (h : schB R L = true) : Thr R (L.map (·.1)) := by
  unfold schB queB at h
  simp only [Bool.and_eq_true, List.all_eq_true] at h
  obtain ⟨_, h1, _, _, _, h2, _⟩ := h
  have hu := riseT_up h1
  refine ⟨fun x hx i hi => ?_, ?_⟩
  · obtain ⟨y, hy, rfl⟩ := List.mem_map.1 hx
    have h3 := h2 y hy
    unfold lockQ at h3
    have h4 : ∀ (q p : List Int), qB R y.1.n p q = true → ∀ i ∈ q, wfB R y.1.n i = true := by
      intro q
      induction q with
      | nil => intro p _ i hi; cases hi
      | cons z q ih =>
        intro p hq i hi
        rw [qB, Bool.and_eq_true, Bool.and_eq_true] at hq
        rcases List.mem_cons.1 hi with rfl | hi
        · exact hq.1
        · exact ih _ hq.2.2 i hi
    have h5 := h4 _ _ h3 i hi
    unfold wfB at h5
    cases hc : (numsR R).contains i
    · rw [runF_none hc] at h5; cases h5
    · rfl
  · cases hc : (numsR R).contains 0
    · rfl
    · have := (hu.2 0 (List.contains_iff_mem.1 hc)).1
      omega
theorem okd_give {R : List Rn} {K : List Kn} {n : Int} (ok : Okd R K) (th : Thr R K) (hin : (K.map (·.n)).contains n = true) : Okd (giveN R K n).1 (giveN R K n).2 ∧ Thr (giveN R K n).1 (giveN R K n).2 := by
  have hk : lessP (K.map (·.n)) n < K.length := by
    have := (less_mem ok.uk hin).1
    rwa [List.length_map] at this
  have hm : K.getD (lessP (K.map (·.n)) n) kn0 ∈ K := getD_memK _ hk
  unfold giveN
  generalize lessP (K.map (·.n)) n = k at hk hm ⊢
  rcases hq : (K.getD k kn0).q with _ | ⟨h, t⟩
  · simp only
    have hs : (delL k K).Sublist K := by
      unfold delL
      have h1 : (K.drop (k + 1)).Sublist (K.drop k) := by
        rw [← List.drop_drop]
        exact List.drop_sublist _ _
      exact (List.Sublist.append (List.Sublist.refl _) h1).trans (by rw [List.take_append_drop]; exact List.Sublist.refl _)
    exact ⟨⟨ok.r, Nat.le_trans hs.length_le ok.k, fun x hx => ok.q x (mem_of_delL hx), ok.ur, ok.uk.sublist (hs.map _)⟩, fun x hx => th.1 x (mem_of_delL hx), th.2⟩
  · simp only
    have hh : (numsR R).contains h = true := th.1 _ hm h (by rw [hq]; exact List.mem_cons_self ..)
    obtain ⟨r1, r2, _⟩ := runF_some ok.ur hh
    have e1 : numsR (R.set (lessP (numsR R) h) ⟨h, 0, 0⟩) = numsR R := by
      unfold numsR
      rw [List.map_set]
      have h2 := set_same 0 (k := lessP (R.map numR) h) (L := R.map numR) (by rw [List.length_map]; exact r1)
      rw [show (R.map numR).getD (lessP (R.map numR) h) 0 = numR ⟨h, 0, 0⟩ by
        have : lessP (R.map numR) h < R.length := r1
        rw [show (R.map numR).getD (lessP (R.map numR) h) 0 = (R.getD (lessP (R.map numR) h) rn0).i by simp [List.getD, this, numR]]
        exact r2] at h2
      exact h2
    have ok1 := (ok.setR (y := ⟨h, 0, 0⟩) r1 r2.symm).setK (y := ⟨(K.getD k kn0).n, h, t⟩) hk rfl (by
      have := ok.q _ hm
      rw [hq] at this
      simp only [List.length_cons] at this
      show t.length ≤ 1000000
      omega)
    refine ⟨ok1, fun x hx i hi => ?_, by rw [e1]; exact th.2⟩
    rw [e1]
    rcases mem_set_orK hx with h9 | rfl
    · exact th.1 x h9 i hi
    · exact th.1 _ hm i (by rw [hq]; exact List.mem_cons_of_mem _ hi)
end Go.Proofs.Ytfohifnbohdbcaa
namespace Go.Proofs.Ytfohifnbohdbcaa
open Go.RowKit Go.Shelf
set_option linter.unusedVariables false
set_option linter.unusedSimpArgs false
theorem scQ_nil (w : World) : ScQ w (scV none 0 0 none 0 0) ([], []) := ⟨none, 0, 0, none, 0, 0, [], rfl, sc_nil _ _ _ _ _ _, rfl⟩
end Go.Proofs.Ytfohifnbohdbcaa
namespace Go.Proofs.Ytfohifnbohdbcaa
open Go.RowKit Go.Shelf
set_option linter.unusedVariables false
set_option linter.unusedSimpArgs false
def bareK (L : List Kw) : List Kw := (L.map (·.1)).map fun k => (k, (none, 0))
theorem bareK_of {L L' : List Kw} (h : L'.map (·.1) = L.map (·.1)) : bareK L' = bareK L := by unfold bareK; rw [h]
theorem schB_bare (R : List Rn) (L : List Kw) : schB R L = schB R (bareK L) := by
  have e1 : numsK (bareK L) = numsK L := by simp only [bareK, numsK, List.map_map]; rfl
  have e2 : (bareK L).all (ownB R) = L.all (ownB R) := by simp only [bareK, List.all_map]; rfl
  have e3 : (bareK L).all (lockQ R) = L.all (lockQ R) := by simp only [bareK, List.all_map]; rfl
  have e4 : lensK (bareK L) = lensK L := by simp only [bareK, lensK, List.map_map]; rfl
  unfold schB queB
  rw [e1, e2, e3, e4]
section
variable {L L' : List Kw} (h : L'.map (·.1) = L.map (·.1)) (R : List Rn)
include h
theorem schB_names : schB R L' = schB R L := by rw [schB_bare R L', schB_bare R L, bareK_of h]
theorem scE_names : scE R L' = scE R L := by unfold scE; rw [schB_names h]
end
end Go.Proofs.Ytfohifnbohdbcaa
namespace Go.Proofs.Ytfohifnbohdbcaa
open Go.RowKit Go.Shelf
set_option linter.unusedVariables false
set_option linter.unusedSimpArgs false
structure TL (w : World) (X Y : Array Value) (q0 q1 : Int) (V : World) : Prop where
  b : Below w.heap.size w V
  k3 : Blk V w.heap.size X 25
  k4 : Blk V (w.heap.size + 1) Y 25
  k5 : Blk V (w.heap.size + 1 + 1) #[.int .i64 q0, .int .i64 q1] 38
theorem TL.step {w : World} {X Y : Array Value} {q0 q1 : Int} {V V' : World} (h : TL w X Y q0 q1 V) (bb : Below V.heap.size V V') : TL w X Y q0 q1 V' :=
  ⟨h.b.trans (bb.mono h.b.size), h.k3.below bb h.k3.lt, h.k4.below bb h.k4.lt, h.k5.below bb h.k5.lt⟩
theorem TL.new (w : World) (X Y : Array Value) (q0 q1 : Int) : TL w X Y q0 q1 (((w.alloc (.cells X 25)).alloc (.cells Y 25)).alloc (.cells #[.int .i64 q0, .int .i64 q1] 38)) :=
  ⟨(((Below.refl w.heap.size w).alloc (Nat.le_refl _) _).alloc (by simp) _).alloc (by simp; omega) _, ((Blk.new w X 25).alloc _).alloc _, (Blk.new_ (w.alloc (.cells X 25)) Y 25 (n := w.heap.size + 1) (by simp)).alloc _, Blk.new_ _ _ _ (by simp)⟩
structure CpV (V : World) (R : List Rn) (L : List Kw) (A : Option Addr) (m c : Nat) (A2 : Option Addr) (m2 c2 : Nat) (L1 : List Kw) : Prop where
  sc : Sc V V.heap.size A m c R A2 m2 c2 L1
  nm : L1.map (·.1) = L.map (·.1)
theorem CopL.cpv {w : World} {v : Value} {B : Nat} {R : List Rn} {L : List Kw} (h : CopL w v B R L) : ∃ A m c A2 m2 c2 L1, v = scV A m c A2 m2 c2 ∧ CpV w R L A m c A2 m2 c2 L1 := by
  obtain ⟨A, m, c, A2, m2, c2, L1, e, sc, hn⟩ := h
  exact ⟨A, m, c, A2, m2, c2, L1, e, sc, hn⟩
theorem CpV.step {V V' : World} {R : List Rn} {L : List Kw} {A : Option Addr} {m c : Nat} {A2 : Option Addr} {m2 c2 : Nat} {L1 : List Kw} (h : CpV V R L A m c A2 m2 c2 L1) (b : Below V.heap.size V V') : CpV V' R L A m c A2 m2 c2 L1 := ⟨h.sc.on b, h.nm⟩
theorem wpList_app1Z {w : World} {ops : Array Oper} {rest : List Oper} {o : Oper} {a : Act} {Q : Exit → Act → World → Prop} (hgd : o.guard = none) (s x : Operand)
    (ho : o.op = .call { callee := .builtin .append, args := #[s, x], argTypes := #[40, 40] })
    (base : Nat) (A : Option Addr) (m c : Nat) (l : List Int) (hs : a.eval s = .slice A m c) (hown : Zo w base A m c l) (g : Nat) (y : Int) (hx : a.eval x = .slice (some ⟨g, 0, none⟩) 1 1) (hc : w.cell? ⟨g, 0, none⟩ = some (.int .i64 y)) (h6 : m ≤ 1000000) (hbase : base ≤ w.heap.size)
    (h : ∀ A' c' w', Zo w' base A' (m + 1) c' (l ++ [y]) → Below base w w' → wpList Try.prog ops Q rest (a.put o.dst (.slice A' (m + 1) c')) w') :
    wpList Try.prog ops Q (o :: rest) a w := by
  obtain ⟨i0, hi, hz0, hz1, hz2⟩ := info_parts zint_info
  refine wpList_append_own w hgd s x 40 ho base 3 i0 _ 1 8 Try.underlying40 hi hz0 hz1 hz2 rfl (by decide) _ _ _ hs hown ⟨g, 0, none⟩ 1 1 [.int .i64 y] hx rfl ?_ (by simp [Value.oneCell']) (by simp only [maxLen]; omega) (by omega) hbase ?_
  · intro j u hu
    match j, hu with
    | 0, hu =>
      simp only [List.getElem?_cons_zero, Option.some.injEq] at hu
      subst hu
      simpa [Addr.add] using hc
    | j + 1, hu => simp at hu
  · intro v' w3 hown' hgrow _
    obtain ⟨A9, c9, rfl⟩ := own_slice hown'
    exact h A9 c9 w3 (by unfold Zo; rw [List.map_append]; exact hown') ((Below.refl base w).grown hgrow hbase (fun r e => (hown.lt r e).1))
structure TM (w : World) (X Y : Array Value) (q0 q1 : Int) (g : Nat) (lx : Kw) (V : World) : Prop where
  t : TL w X Y q0 q1 V
  k : Blk V g (kwC lx) 48
theorem TM.step {w : World} {X Y : Array Value} {q0 q1 : Int} {g : Nat} {lx : Kw} {V V' : World} (h : TM w X Y q0 q1 g lx V) (bb : Below V.heap.size V V') : TM w X Y q0 q1 g lx V' := ⟨h.t.step bb, h.k.below bb h.k.lt⟩
end Go.Proofs.Ytfohifnbohdbcaa
namespace Go.Proofs.Ytfohifnbohdbcaa
open Go.RowKit Go.Shelf
set_option linter.unusedVariables false
set_option linter.unusedSimpArgs false
theorem take_snocI {l : List Int} {k : Nat} (h : k < l.length) : l.take (k + 1) = l.take k ++ [l.getD k 0] := by
  rw [List.take_succ_eq_append_getElem h, show l.getD k 0 = l[k] by simp [List.getD, h]]
end Go.Proofs.Ytfohifnbohdbcaa
