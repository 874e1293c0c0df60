/-
  Plain: what the reference says of a thread that ends is what the program says.
-/
import Derived.Test.YtfohifnbohdbcaaQScLe
import Derived.Test.YtfohifnbohdbcaaQScFo
namespace Go.Proofs.Ytfohifnbohdbcaa
open Go.RowKit Go.Shelf
set_option linter.unusedVariables false
set_option linter.unusedSimpArgs false
def bareN (K : List Kn) : List Kw := K.map fun x => (x, (none, 0))
theorem bareN_map (K : List Kn) : (bareN K).map (·.1) = K := by
  unfold bareN
  rw [List.map_map]
  exact List.map_id' K
theorem pass_give2 {R : List Rn} {K : List Kn} {n : Int} (f : Fit R K) (hc : (K.map (·.n)).contains n = true) : passN R K n = giveN R K n := by
  have h := pass_give (R := R) (L := bareN K) (n := n) (by rw [bareN_map]; exact f) (by rw [numsK_names, bareN_map]; exact hc)
  rwa [bareN_map] at h
theorem has_cont (K : List Kn) (n : Int) : hasN K n = (K.map (·.n)).contains n := by
  unfold hasN
  induction K with
  | nil => rfl
  | cons x K ih =>
    rw [List.find?_cons, List.map_cons, List.contains_cons, ← ih]
    cases h : (x.n == n)
    · rw [show (n == x.n) = false by simpa using fun e : n = x.n => by simp [e] at h, Bool.false_or]
    · rw [show (n == x.n) = true by simpa using (show x.n = n by simpa using h).symm, Bool.true_or]
      rfl
theorem fndN_mem {K : List Kn} (hu : (K.map (·.n)).Pairwise (· < ·)) {x : Kn} (hx : x ∈ K) : fndN K x.n = x := by
  unfold fndN
  cases hf : K.find? (fun y => y.n == x.n) with
  | none => exact absurd (List.find?_eq_none.1 hf x hx) (by simp)
  | some y =>
    have h1 := List.mem_of_find?_eq_some hf
    have h2 := List.find?_some hf
    exact uniq (fun y : Kn => y.n) hu h1 hx (by simpa using h2)
theorem fndN_in {K : List Kn} {n : Int} (h : hasN K n = true) : fndN K n ∈ K ∧ (fndN K n).n = n := by
  unfold hasN at h
  unfold fndN
  cases hf : K.find? (fun y => y.n == n) with
  | none => rw [hf] at h; cases h
  | some y => exact ⟨List.mem_of_find?_eq_some hf, by simpa using List.find?_some hf⟩
theorem give_two {R : List Rn} {K : List Kn} (hu : (K.map (·.n)).Pairwise (· < ·)) {x : Kn} (hx : x ∈ K) : (((giveN R K x.n).2.map (·.n)).Pairwise (· < ·)) ∧ (∀ z, z ∈ (giveN R K x.n).2 ↔ (z ∈ K ∧ z.n ≠ x.n) ∨ ∃ h t, x.q = h :: t ∧ z = ⟨x.n, h, t⟩) ∧ (giveN R K x.n).1 = (match x.q with | [] => R | h :: _ => R.set (lessP (numsR R) h) ⟨h, 0, 0⟩) := by
  have hc : (K.map (·.n)).contains x.n = true := List.contains_iff_mem.2 (List.mem_map.2 ⟨x, hx, rfl⟩)
  have h1 := at_mem (fun y : Kn => y.n) hu kn0 hx
  unfold giveN
  rw [h1]
  rcases hq : x.q with _ | ⟨h, t⟩
  · obtain ⟨d1, d2⟩ := rise_del (fun y : Kn => y.n) hu hc
    refine ⟨d1, fun z => (d2 z).trans ⟨fun hz => .inl hz, fun hz => ?_⟩, rfl⟩
    rcases hz with hz | ⟨_, _, e, _⟩
    · exact hz
    · cases e
  · obtain ⟨d1, d2⟩ := rise_set (fun y : Kn => y.n) hu kn0 (x := ⟨x.n, h, t⟩) hc
    refine ⟨d1, fun z => (d2 z).trans ⟨fun hz => ?_, fun hz => ?_⟩, rfl⟩
    · rcases hz with hz | hz
      · exact .inr ⟨h, t, rfl, hz⟩
      · exact .inl hz
    · rcases hz with hz | ⟨h', t', e, hz⟩
      · exact .inr hz
      · cases e; exact .inl hz
theorem leave_two {K : List Kn} (hu : (K.map (·.n)).Pairwise (· < ·)) (id v : Int) : ((leaveN K id v).map (·.n)).Pairwise (· < ·) ∧ (∀ z, z ∈ leaveN K id v ↔ (z ∈ K ∧ z.n ≠ v) ∨ ∃ x ∈ K, x.n = v ∧ z = ⟨v, x.o, x.q.filter (fun z => !(z == id))⟩) := by
  unfold leaveN
  split
  · rename_i hc
    obtain ⟨h1, h2, h3⟩ := at_num (fun y : Kn => y.n) hu kn0 hc
    obtain ⟨d1, d2⟩ := rise_set (fun y : Kn => y.n) hu kn0 (x := ⟨v, (K.getD (lessP (K.map (·.n)) v) kn0).o, (K.getD (lessP (K.map (·.n)) v) kn0).q.filter (fun z => !(z == id))⟩) hc
    refine ⟨d1, fun z => (d2 z).trans ⟨fun hz => ?_, fun hz => ?_⟩⟩
    · rcases hz with hz | hz
      · exact .inr ⟨_, h3, h2, hz⟩
      · exact .inl hz
    · rcases hz with hz | ⟨x, hx, hn, hz⟩
      · exact .inr hz
      · refine .inl ?_
        rw [uniq (fun y : Kn => y.n) hu h3 hx (h2.trans hn.symm)]
        exact hz
  · rename_i hc
    refine ⟨hu, fun z => ⟨fun hz => .inl ⟨hz, fun e => hc (List.contains_iff_mem.2 (List.mem_map.2 ⟨z, hz, e⟩))⟩, fun hz => ?_⟩⟩
    rcases hz with hz | ⟨x, hx, hn, _⟩
    · exact hz.1
    · exact absurd (List.contains_iff_mem.2 (List.mem_map.2 ⟨x, hx, hn⟩)) hc
theorem numsR_set {R : List Rn} {k : Nat} {y : Rn} (hk : k < R.length) (h : y.i = (R.getD k rn0).i) : numsR (R.set k y) = numsR R := by
  unfold numsR
  rw [List.map_set]
  have h3 := set_same 0 (k := k) (L := R.map numR) (by rw [List.length_map]; exact hk)
  rw [show (R.map numR).getD k 0 = (R.getD k rn0).i by simp [List.getD, hk, numR], ← h] at h3
  exact h3
theorem Fit.setR {R : List Rn} {K : List Kn} (f : Fit R K) {k : Nat} {y : Rn} (hk : k < R.length) (h : y.i = (R.getD k rn0).i) : Fit (R.set k y) K := by
  have e := numsR_set hk h
  exact ⟨⟨by rw [List.length_set]; exact f.ok.r, f.ok.k, f.ok.q, by unfold UpR; rw [e]; exact f.ok.ur, f.ok.uk⟩, by unfold Thr; rw [e]; exact f.th, f.ow⟩
theorem Fit.leave {R : List Rn} {K : List Kn} (f : Fit R K) (id v : Int) : Fit R (leaveN K id v) := by
  obtain ⟨_, h2⟩ := leave_two f.ok.uk id v
  refine ⟨okd_leave f.ok id v, ⟨fun z hz i hi => ?_, f.th.2⟩, fun z hz => ?_⟩
  · rcases (h2 z).1 hz with hz | ⟨x, hx, _, rfl⟩
    · exact f.th.1 z hz.1 i hi
    · exact f.th.1 x hx i (List.mem_filter.1 hi).1
  · rcases (h2 z).1 hz with hz | ⟨x, hx, _, rfl⟩
    · exact f.ow z hz.1
    · exact f.ow x hx
theorem Fit.give {R : List Rn} {K : List Kn} (f : Fit R K) {x : Kn} (hx : x ∈ K) : Fit (giveN R K x.n).1 (giveN R K x.n).2 := by
  have hc : (K.map (·.n)).contains x.n = true := List.contains_iff_mem.2 (List.mem_map.2 ⟨x, hx, rfl⟩)
  obtain ⟨h1, h2⟩ := okd_give f.ok f.th hc
  refine ⟨h1, h2, fun z hz => ?_⟩
  rcases ((give_two (R := R) f.ok.uk hx).2.1 z).1 hz with hz | ⟨h, t, hq, rfl⟩
  · exact f.ow z hz.1
  · intro e
    have h9 := f.th.1 x hx h (by rw [hq]; exact List.mem_cons_self ..)
    rw [show h = 0 from e, f.th.2] at h9
    cases h9
theorem all_keep {id : Int} (b : List Int) : ∀ (a : List Int) {R : List Rn} {K : List Kn}, EndI R K id (a ++ b) → Fit R K → EndI (giveAll R K a).1 (giveAll R K a).2 id b ∧ Fit (giveAll R K a).1 (giveAll R K a).2 ∧ ∀ z : Kn, z.n ∉ a → (z ∈ (giveAll R K a).2 ↔ z ∈ K)
  | [], R, K, h, f => ⟨h, f, fun z _ => Iff.rfl⟩
  | n :: a, R, K, h, f => by
    obtain ⟨x, hx, hxn, _, _⟩ := h.on n (List.mem_cons_self ..)
    have hs := h.step.1
    have f2 := f.give hx
    rw [hxn] at f2
    obtain ⟨h1, h2, h3⟩ := all_keep b a hs f2
    refine ⟨h1, h2, fun z hz => ?_⟩
    have hz2 : z.n ∉ a := fun e => hz (List.mem_cons_of_mem _ e)
    have hzn : z.n ≠ n := fun e => hz (by rw [e]; exact List.mem_cons_self ..)
    refine (h3 z hz2).trans ?_
    have h4 := (give_two (R := R) f.ok.uk hx).2.1 z
    rw [hxn] at h4
    refine h4.trans ⟨fun e => ?_, fun e => .inl ⟨e, hzn⟩⟩
    rcases e with e | ⟨_, _, _, rfl⟩
    · exact e.1
    · exact absurd rfl hzn
theorem filt_le {l : List Int} (hl : l.Pairwise (· < ·)) (j : Nat) : l.filter (fun z => decide (z ≤ (j : Int) + 1)) = l.filter (fun z => decide (z ≤ (j : Int))) ++ (if (j : Int) + 1 ∈ l then [(j : Int) + 1] else []) := by
  have hp : ∀ p : Int → Bool, ((l.filter p).map (fun z : Int => z)).Pairwise (· < ·) := fun p => by rw [List.map_id']; exact hl.sublist List.filter_sublist
  refine rising_ext (fun z : Int => z) (hp _) ?_ fun z => ?_
  · rw [List.map_id', List.pairwise_append]
    refine ⟨hl.sublist List.filter_sublist, by split <;> simp, fun a ha b hb => ?_⟩
    have h1 := (List.mem_filter.1 ha).2
    simp only [decide_eq_true_eq] at h1
    split at hb
    · rw [List.mem_singleton] at hb; omega
    · cases hb
  · rw [List.mem_append, List.mem_filter, List.mem_filter, decide_eq_true_eq, decide_eq_true_eq]
    constructor
    · rintro ⟨h1, h2⟩
      by_cases h3 : z ≤ (j : Int)
      · exact .inl ⟨h1, h3⟩
      · have e : z = (j : Int) + 1 := by omega
        subst e
        exact .inr (by rw [if_pos h1]; exact List.mem_singleton.2 rfl)
    · rintro (⟨h1, h2⟩ | h)
      · exact ⟨h1, by omega⟩
      · split at h
        · rename_i h1
          rw [List.mem_singleton] at h
          subst h
          exact ⟨h1, Int.le_refl _⟩
        · cases h
theorem pass_all {R : List Rn} {K : List Kn} {id : Int} {l : List Int} (f : Fit R K) (h : EndI R K id l) (hl : l.Pairwise (· < ·)) (h1 : ∀ n ∈ l, 1 ≤ n) (hall : ∀ x ∈ K, x.o = id → x.n ∈ l) : ∀ (j : Nat), passUp id (R, K) j = giveAll R K (l.filter (fun z => decide (z ≤ (j : Int))))
  | 0 => by
    have e : l.filter (fun z => decide (z ≤ ((0 : Nat) : Int))) = [] := List.filter_eq_nil_iff.2 fun z hz => by
      have := h1 z hz
      simp only [decide_eq_true_eq]
      omega
    rw [e]
    rfl
  | j + 1 => by
    have ih := pass_all f h hl h1 hall j
    have ht : EndI R K id (l.filter (fun z => decide (z ≤ (j : Int))) ++ l.filter (fun z => !decide (z ≤ (j : Int)))) := by
      refine ⟨h.ok, h.th, ?_, fun n hn => h.on n ?_⟩
      · exact (List.filter_append_perm (fun z => decide (z ≤ (j : Int))) l).nodup_iff.2 h.nd
      · rcases List.mem_append.1 hn with hn | hn <;> exact (List.mem_filter.1 hn).1
    obtain ⟨hE, hF, hK⟩ := all_keep _ _ ht f
    have hnot : (j : Int) + 1 ∉ l.filter (fun z => decide (z ≤ (j : Int))) := fun e => by
      have := (List.mem_filter.1 e).2
      simp only [decide_eq_true_eq] at this
      omega
    rw [passUp, ih, show (((j + 1 : Nat)) : Int) = (j : Int) + 1 by omega, filt_le hl j]
    by_cases hm : (j : Int) + 1 ∈ l
    · rw [if_pos hm, giveAll_snoc]
      obtain ⟨x, hx, hxn, hxo, _⟩ := h.on _ hm
      have hx2 := (hK x (by rw [hxn]; exact hnot)).2 hx
      have hfn := fndN_mem hF.ok.uk hx2
      rw [hxn] at hfn
      have hc : (((giveAll R K (l.filter (fun z => decide (z ≤ (j : Int))))).2).map (·.n)).contains ((j : Int) + 1) = true := List.contains_iff_mem.2 (List.mem_map.2 ⟨x, hx2, hxn⟩)
      rw [if_pos (by rw [has_cont, hc, hfn, hxo]; simp), pass_give2 hF hc]
    · rw [if_neg hm, List.append_nil, if_neg]
      intro e
      rw [Bool.and_eq_true] at e
      obtain ⟨y1, y2⟩ := fndN_in e.1
      have y3 := (hK _ (by rw [y2]; exact hnot)).1 y1
      have := hall _ y3 (by simpa using e.2)
      rw [y2] at this
      exact hm this
theorem all_comm {id v : Int} {e : Rn} (he : e.i = id) : ∀ (l : List Int) {R : List Rn} {K : List Kn} {k : Nat}, EndI R K id l → Fit R K → v ∉ l → k < R.length → (R.getD k rn0).i = id → giveAll (R.set k e) (leaveN K id v) l = ((giveAll R K l).1.set k e, leaveN (giveAll R K l).2 id v)
  | [], R, K, k, h, f, hv, hk, hi => rfl
  | n :: l, R, K, k, h, f, hv, hk, hi => by
    obtain ⟨x, hx, hxn, hxo, hxq⟩ := h.on n (List.mem_cons_self ..)
    have hnv : n ≠ v := fun e => hv (by rw [e]; exact List.mem_cons_self ..)
    obtain ⟨hs, _, hlen, hkeep, _⟩ := h.step
    have f2 := f.give hx
    obtain ⟨u1, u2⟩ := leave_two f.ok.uk id v
    have hx1 : x ∈ leaveN K id v := (u2 x).2 (.inl ⟨hx, by rw [hxn]; exact hnv⟩)
    obtain ⟨a1, a2, a3⟩ := give_two (R := R) f.ok.uk hx
    obtain ⟨b1, b2, b3⟩ := give_two (R := R.set k e) u1 hx1
    obtain ⟨c1, c2⟩ := leave_two a1 id v
    rw [hxn] at f2 a1 a2 a3 b1 b2 b3 c1 c2
    have e1 : (giveN (R.set k e) (leaveN K id v) n).1 = (giveN R K n).1.set k e := by
      rw [a3, b3, numsR_set hk (by rw [he, hi])]
      rcases hq : x.q with _ | ⟨h0, t⟩
      · rfl
      · simp only
        refine List.set_comm _ _ fun e9 => hxq ?_
        have h9 : (numsR R).contains h0 = true := f.th.1 x hx h0 (by rw [hq]; exact List.mem_cons_self ..)
        obtain ⟨_, r2, _⟩ := runF_some f.ok.ur h9
        rw [← e9, hi] at r2
        rw [hq, r2]
        exact List.mem_cons_self ..
    have e2 : (giveN (R.set k e) (leaveN K id v) n).2 = leaveN (giveN R K n).2 id v := by
      refine rising_ext (fun y : Kn => y.n) b1 c1 fun z => (b2 z).trans (Iff.trans ?_ (c2 z).symm)
      constructor
      · rintro (⟨hz, hzn⟩ | ⟨h0, t, hq, rfl⟩)
        · rcases (u2 z).1 hz with hz | ⟨y, hy, hyn, rfl⟩
          · exact .inl ⟨(a2 z).2 (.inl ⟨hz.1, hzn⟩), hz.2⟩
          · exact .inr ⟨y, (a2 y).2 (.inl ⟨hy, by rw [hyn]; exact hnv.symm⟩), hyn, rfl⟩
        · exact .inl ⟨(a2 _).2 (.inr ⟨h0, t, hq, rfl⟩), hnv⟩
      · rintro (⟨hz, hzv⟩ | ⟨y, hy, hyn, rfl⟩)
        · rcases (a2 z).1 hz with hz | hz
          · exact .inl ⟨(u2 z).2 (.inl ⟨hz.1, hzv⟩), hz.2⟩
          · exact .inr hz
        · rcases (a2 y).1 hy with hy | ⟨_, _, _, rfl⟩
          · exact .inl ⟨(u2 _).2 (.inr ⟨y, hy.1, hyn, rfl⟩), hnv.symm⟩
          · exact absurd hyn hnv
    have ih := all_comm he l hs f2 (fun e => hv (List.mem_cons_of_mem _ e)) (k := k) (by rw [hlen]; exact hk) (by rw [hkeep k hi hk]; exact hi)
    rw [giveAll, giveAll, e1, e2, ih]
theorem endK_leave {R : List Rn} {K : List Kn} (f : Fit R K) (id v : Int) : endK K id v = leaveN K id v := by
  unfold endK leaveN
  rw [has_cont]
  cases hc : (K.map (·.n)).contains v
  · rw [if_neg (by simp), if_neg (by simp)]
  · obtain ⟨h1, h2, h3⟩ := at_num (fun y : Kn => y.n) f.ok.uk kn0 hc
    have h4 := fndN_mem f.ok.uk h3
    rw [h2] at h4
    rw [if_pos rfl, if_pos rfl, h4, h2]
    have h0 : ((K.getD (lessP (K.map (·.n)) v) kn0).o == 0) = false := by simpa using f.ow _ h3
    rw [h0]
    have hp := putG_false (·.n) (⟨v, (K.getD (lessP (K.map (·.n)) v) kn0).o, (K.getD (lessP (K.map (·.n)) v) kn0).q.filter (fun z => z != id)⟩ : Kn) (L := K) f.ok.uk
    rw [show (⟨v, (K.getD (lessP (K.map (·.n)) v) kn0).o, (K.getD (lessP (K.map (·.n)) v) kn0).q.filter (fun z => z != id)⟩ : Kn).n = v from rfl, hc, if_pos rfl] at hp
    exact hp
theorem end_eq {w : World} {B : Nat} {A : Option Addr} {m c : Nat} {R : List Rn} {A2 : Option Addr} {m2 c2 : Nat} {L : List Kw} (h : Sc w B A m c R A2 m2 c2 L) (id : Int) : endW R L id = endR R L id := by
  unfold endW endR chgS
  cases hs : schB R L
  · have e : scE R L = 230 := by unfold scE; rw [hs, if_neg (by simp)]
    rw [if_neg (by simp), e, if_neg (by decide)]
  · have e : scE R L = 0 := by unfold scE; rw [hs, if_pos rfl]
    have f := fit_of h hs
    rw [if_pos rfl, if_pos e]
    unfold ofF
    have hf := lives_fnd R id
    cases hl : livesB R id
    · rw [hl] at hf
      have h9 : (!(fndR R id).2 || (fndR R id).1.s == 2) = true := by
        revert hf
        cases (fndR R id).2 <;> cases ((fndR R id).1.s == 2) <;> simp
      simp only [h9, Bool.false_eq_true, ↓reduceIte, if_neg (show ¬ (4 : Int) = 0 by decide)]
    · rw [hl] at hf
      have h9 : (!(fndR R id).2 || (fndR R id).1.s == 2) = false := by
        revert hf
        cases (fndR R id).2 <;> cases ((fndR R id).1.s == 2) <;> simp
      obtain ⟨hc, hk⟩ := lives_in f.ok.ur hl
      obtain ⟨_, hi, _⟩ := runF_some f.ok.ur hc
      obtain ⟨hE, hw⟩ := endI_of h hs hl
      simp only [h9, Bool.false_eq_true, ↓reduceIte]
      unfold endF
      rw [if_pos rfl, fndR_yes f.ok.ur hc]
      simp only
      have hp := putG_false numR (⟨id, 2, 0⟩ : Rn) (L := R) f.ok.ur
      rw [show R.map numR = numsR R from rfl, show numR (⟨id, 2, 0⟩ : Rn) = id from rfl, hc, if_pos rfl] at hp
      rw [hp, endK_leave f]
      generalize lessP (numsR R) id = k at hk hi hw ⊢
      have hv : (R.getD k rn0).n ∉ ownsN (L.map (·.1)) id := fun e => hw _ e rfl
      generalize (R.getD k rn0).n = v at hv ⊢
      have huL : (ownsN (L.map (·.1)) id).Pairwise (· < ·) := f.ok.uk.sublist (List.filter_sublist.map _)
      obtain ⟨_, u2⟩ := leave_two f.ok.uk id v
      have hE1 : EndI (R.set k ⟨id, 2, 0⟩) (leaveN (L.map (·.1)) id v) id (ownsN (L.map (·.1)) id) := by
        have f1 := (f.leave id v).setR (y := ⟨id, 2, 0⟩) hk hi.symm
        refine ⟨f1.ok, f1.th, hE.nd, fun n hn => ?_⟩
        obtain ⟨x, hx, hxn, hxo⟩ := hE.on n hn
        exact ⟨x, (u2 x).2 (.inl ⟨hx, fun e => hv (by rw [← e, hxn]; exact hn)⟩), hxn, hxo⟩
      have hno : ∀ n ∈ ownsN (L.map (·.1)) id, 1 ≤ n ∧ n ≤ 40 := fun n hn => by
        obtain ⟨x, hx, hxn, _⟩ := hE.on n hn
        have hr : riseT 40 0 (numsK L) = true := by
          unfold schB at hs
          simp only [Bool.and_eq_true] at hs
          exact hs.2.2.1
        have := (riseT_up hr).2 n (by rw [numsK_names]; exact List.mem_map.2 ⟨x, hx, hxn⟩)
        omega
      have h2 := pass_all ((f.leave id v).setR (y := ⟨id, 2, 0⟩) hk hi.symm) hE1 huL (fun n hn => (hno n hn).1) (fun x hx ho => by
        rcases (u2 x).1 hx with hx | ⟨y, hy, hyn, rfl⟩
        · exact List.mem_map.2 ⟨x, List.mem_filter.2 ⟨hx.1, by simpa using ho⟩, rfl⟩
        · exact List.mem_map.2 ⟨y, List.mem_filter.2 ⟨hy, by simpa using ho⟩, hyn⟩) 40
      rw [List.filter_eq_self.2 (fun z hz => by have := hno z hz; simp; omega), all_comm (v := v) rfl _ hE f hv hk hi] at h2
      rw [h2]
end Go.Proofs.Ytfohifnbohdbcaa
