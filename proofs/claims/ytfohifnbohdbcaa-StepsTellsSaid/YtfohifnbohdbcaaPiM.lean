/-
  Ids as lists of numbers that rise: plain lemmas.
-/
import Derived.Test.YtfohifnbohdbcaaRows
namespace Go.Proofs.Ytfohifnbohdbcaa
set_option linter.unusedVariables false

/-- The numbers rise from behind p on, to 20. -/
def riseP : Int → List Int → Bool
  | _, [] => true
  | p, x :: l => decide (p < x) && (decide (x ≤ 20) && riseP x l)
/-- Check's answer. -/
def pidE (a : Int) (l : List Int) : Int := if decide (0 ≤ a) && (decide (a ≤ 20) && riseP 0 l) then 0 else 200
/-- Ids that may be. -/
structure Ids (a : Int) (l : List Int) : Prop where
  a0 : 0 ≤ a
  a1 : a ≤ 20
  up : l.Pairwise (· < ·)
  m : ∀ x ∈ l, 1 ≤ x ∧ x ≤ 20
theorem riseP_iff : ∀ (l : List Int) (p : Int), riseP p l = true ↔ (∀ x ∈ l, p < x ∧ x ≤ 20) ∧ l.Pairwise (· < ·)
  | [], p => by simp [riseP]
  | x :: l, p => by
    rw [riseP, Bool.and_eq_true, Bool.and_eq_true, decide_eq_true_iff, decide_eq_true_iff, riseP_iff l x, List.pairwise_cons]
    constructor
    · rintro ⟨h1, h2, h3, h4⟩
      refine ⟨fun y hy => ?_, fun y hy => (h3 y hy).1, h4⟩
      rcases List.mem_cons.1 hy with rfl | h
      · exact ⟨h1, h2⟩
      · exact ⟨Int.lt_trans h1 (h3 y h).1, (h3 y h).2⟩
    · rintro ⟨h1, h2, h3⟩
      exact ⟨(h1 x (by simp)).1, (h1 x (by simp)).2, fun y hy => ⟨h2 y hy, (h1 y (by simp [hy])).2⟩, h3⟩
theorem ids_iff {a : Int} {l : List Int} : pidE a l = 0 ↔ Ids a l := by
  unfold pidE
  constructor
  · intro h
    split at h
    · rename_i hc
      simp only [Bool.and_eq_true, decide_eq_true_iff, riseP_iff] at hc
      obtain ⟨h1, h2, h3, h4⟩ := hc
      exact ⟨h1, h2, h4, fun x hx => ⟨by have := (h3 x hx).1; omega, (h3 x hx).2⟩⟩
    · cases h
  · intro h
    rw [if_pos]
    simp only [Bool.and_eq_true, decide_eq_true_iff, riseP_iff]
    exact ⟨h.a0, h.a1, fun x hx => ⟨by have := (h.m x hx).1; omega, (h.m x hx).2⟩, h.up⟩
theorem pidE_or (a : Int) (l : List Int) : pidE a l = 0 ∨ pidE a l = 200 := by unfold pidE; split <;> simp
theorem pidE_no {a : Int} {l : List Int} (h : ¬ Ids a l) : pidE a l = 200 := by
  rcases pidE_or a l with h1 | h1
  · exact absurd (ids_iff.1 h1) h
  · exact h1
/-- Two lists that rise and have the same numbers are one. -/
theorem up_ext : ∀ {l m : List Int}, l.Pairwise (· < ·) → m.Pairwise (· < ·) → (∀ x, x ∈ l ↔ x ∈ m) → l = m
  | [], [], _, _, _ => rfl
  | [], y :: m, _, _, h => absurd ((h y).2 (by simp)) (by simp)
  | x :: l, [], _, _, h => absurd ((h x).1 (by simp)) (by simp)
  | x :: l, y :: m, hl, hm, h => by
    rw [List.pairwise_cons] at hl hm
    have hxy : x = y := by
      have h1 := (h x).1 (by simp)
      have h2 := (h y).2 (by simp)
      rcases List.mem_cons.1 h1 with e | h1
      · exact e
      · rcases List.mem_cons.1 h2 with e | h2
        · exact e.symm
        · have := hm.1 x h1; have := hl.1 y h2; omega
    subst hxy
    rw [up_ext hl.2 hm.2 fun z => ?_]
    constructor
    · intro hz
      rcases List.mem_cons.1 ((h z).1 (by simp [hz])) with e | e
      · subst e; exact absurd (hl.1 z hz) (by omega)
      · exact e
    · intro hz
      rcases List.mem_cons.1 ((h z).2 (by simp [hz])) with e | e
      · subst e; exact absurd (hm.1 z hz) (by omega)
      · exact e
/-- How many are less. -/
def lessP (l : List Int) (x : Int) : Nat := l.countP (fun y => decide (y < x))
theorem lessP_le (l : List Int) (x : Int) : lessP l x ≤ l.length := List.countP_le_length
theorem less_zero {l : List Int} {x y : Int} (h : ∀ z ∈ l, y < z) (hxy : x ≤ y) : lessP l x = 0 := by
  unfold lessP
  rw [List.countP_eq_zero]
  intro z hz
  have := h z hz
  simp; omega
theorem take_less : ∀ {l : List Int} (x : Int), l.Pairwise (· < ·) → l.take (lessP l x) = l.filter (fun y => decide (y < x)) ∧ l.drop (lessP l x) = l.filter (fun y => !decide (y < x))
  | [], x, _ => ⟨rfl, rfl⟩
  | y :: l, x, h => by
    rw [List.pairwise_cons] at h
    obtain ⟨h1, h2⟩ := take_less x h.2
    by_cases hy : y < x
    · have e : lessP (y :: l) x = lessP l x + 1 := by unfold lessP; rw [List.countP_cons_of_pos (by simpa using hy)]
      rw [e, List.take_succ_cons, List.drop_succ_cons, h1, h2, List.filter_cons_of_pos (by simpa using hy), List.filter_cons_of_neg (by simpa using hy)]
      exact ⟨rfl, rfl⟩
    · have e : lessP (y :: l) x = 0 := by
        unfold lessP
        rw [List.countP_cons_of_neg (by simpa using hy)]
        exact less_zero h.1 (by omega)
      rw [e, List.take_zero, List.drop_zero]
      constructor
      · rw [List.filter_cons_of_neg (by simpa using hy)]
        refine (List.filter_eq_nil_iff.2 fun z hz => ?_).symm
        have := h.1 z hz
        simp; omega
      · rw [List.filter_cons_of_pos (by simpa using hy)]
        refine congrArg _ (List.filter_eq_self.2 fun z hz => ?_).symm
        have := h.1 z hz
        simp; omega
/-- The numbers with one more, at its place; without one. -/
def insP (l : List Int) (x : Int) : List Int := l.take (lessP l x) ++ x :: l.drop (lessP l x)
def delP (l : List Int) (x : Int) : List Int := l.take (lessP l x) ++ l.drop (lessP l x + 1)
theorem mem_insP {l : List Int} {x y : Int} : y ∈ insP l x ↔ y = x ∨ y ∈ l := by
  have h : y ∈ l ↔ y ∈ l.take (lessP l x) ∨ y ∈ l.drop (lessP l x) := by
    rw [← List.mem_append, List.take_append_drop]
  unfold insP
  rw [List.mem_append, List.mem_cons, h]
  constructor
  · rintro (h | h | h)
    · exact .inr (.inl h)
    · exact .inl h
    · exact .inr (.inr h)
  · rintro (h | h | h)
    · exact .inr (.inl h)
    · exact .inl h
    · exact .inr (.inr h)
theorem len_insP (l : List Int) (x : Int) : (insP l x).length = l.length + 1 := by
  have := lessP_le l x
  simp [insP, List.length_append]
  omega
theorem up_insP {l : List Int} {x : Int} (h : l.Pairwise (· < ·)) (hx : x ∉ l) : (insP l x).Pairwise (· < ·) := by
  obtain ⟨h1, h2⟩ := take_less x h
  unfold insP
  rw [h1, h2, List.pairwise_append, List.pairwise_cons]
  refine ⟨h.filter _, ⟨fun y hy => ?_, h.filter _⟩, fun y hy z hz => ?_⟩
  · rw [List.mem_filter] at hy
    have : y ≠ x := fun e => hx (e ▸ hy.1)
    have := hy.2
    simp at this
    omega
  · rw [List.mem_filter] at hy
    have h3 := hy.2
    simp at h3
    rcases List.mem_cons.1 hz with rfl | hz
    · exact h3
    · rw [List.mem_filter] at hz
      have := hz.2
      simp at this
      omega
theorem delP_eq : ∀ {l : List Int} {x : Int}, l.Pairwise (· < ·) → x ∈ l → delP l x = l.filter (fun y => y != x)
  | [], x, _, h => absurd h (by simp)
  | y :: l, x, h, hx => by
    rw [List.pairwise_cons] at h
    by_cases hy : y < x
    · have e : lessP (y :: l) x = lessP l x + 1 := by unfold lessP; rw [List.countP_cons_of_pos (by simpa using hy)]
      have hxl : x ∈ l := by
        rcases List.mem_cons.1 hx with e | e
        · omega
        · exact e
      have ih := delP_eq h.2 hxl
      unfold delP at ih ⊢
      rw [e, List.take_succ_cons, List.drop_succ_cons, List.cons_append, ih, List.filter_cons_of_pos (by simp; omega)]
    · have e : lessP (y :: l) x = 0 := by
        unfold lessP
        rw [List.countP_cons_of_neg (by simpa using hy)]
        exact less_zero h.1 (by omega)
      have hxy : x = y := by
        rcases List.mem_cons.1 hx with e | e
        · exact e
        · have := h.1 x e; omega
      subst hxy
      unfold delP
      rw [e, List.take_zero, List.nil_append, Nat.zero_add, List.drop_succ_cons, List.drop_zero, List.filter_cons_of_neg (by simp)]
      refine (List.filter_eq_self.2 fun z hz => ?_).symm
      have := h.1 z hz
      simp; omega
theorem mem_delP {l : List Int} {x y : Int} (h : l.Pairwise (· < ·)) (hx : x ∈ l) : y ∈ delP l x ↔ y ∈ l ∧ y ≠ x := by
  rw [delP_eq h hx, List.mem_filter]; simp
theorem up_delP {l : List Int} {x : Int} (h : l.Pairwise (· < ·)) (hx : x ∈ l) : (delP l x).Pairwise (· < ·) := by
  rw [delP_eq h hx]; exact h.filter _
theorem less_lt {l : List Int} {x : Int} (hx : x ∈ l) : lessP l x < l.length := by
  rcases Nat.lt_or_ge (lessP l x) l.length with h | h
  · exact h
  · have e : lessP l x = l.length := Nat.le_antisymm (lessP_le l x) h
    unfold lessP at e
    rw [List.countP_eq_length] at e
    have := e x hx
    simp at this
theorem len_delP {l : List Int} {x : Int} (hx : x ∈ l) : (delP l x).length + 1 = l.length := by
  have := less_lt hx
  simp [delP, List.length_append]
  omega
/-- All ids. -/
def all20 : List Int := (List.range 20).map fun (k : Nat) => (k : Int) + 1
theorem mem_all20 {x : Int} : x ∈ all20 ↔ 1 ≤ x ∧ x ≤ 20 := by
  unfold all20
  rw [List.mem_map]
  constructor
  · rintro ⟨k, hk, rfl⟩
    rw [List.mem_range] at hk
    omega
  · rintro ⟨h1, h2⟩
    exact ⟨(x - 1).toNat, List.mem_range.2 (by omega), by omega⟩
theorem up_all20 : all20.Pairwise (· < ·) := by decide
theorem filter_all20 {l : List Int} (p : Int → Bool) (h : l.Pairwise (· < ·)) (hp : ∀ x, x ∈ l ↔ (1 ≤ x ∧ x ≤ 20) ∧ p x = true) : all20.filter p = l :=
  up_ext (up_all20.filter _) h fun x => by rw [List.mem_filter, mem_all20, hp]
theorem Ids.canon {a : Int} {l : List Int} (h : Ids a l) : all20.filter (fun x => l.contains x) = l :=
  filter_all20 _ h.up fun x => ⟨fun hx => ⟨h.m x hx, by simpa using hx⟩, fun hx => by simpa using hx.2⟩
theorem Ids.len {a : Int} {l : List Int} (h : Ids a l) : l.length ≤ 20 := by
  rw [← h.canon]
  exact List.length_filter_le _ all20
theorem Ids.full {a : Int} {l : List Int} (h : Ids a l) (hl : l.length = 20) {x : Int} (h1 : 1 ≤ x) (h2 : x ≤ 20) : x ∈ l := by
  have e := h.canon
  have e2 : (all20.filter (fun x => l.contains x)).length = all20.length := by rw [e, hl]; rfl
  rw [List.length_filter_eq_length_iff] at e2
  simpa using e2 x (mem_all20.2 ⟨h1, h2⟩)
/-- Id number i behind a, round. -/
def cand (a i : Nat) : Nat := (a + i) % 20 + 1
theorem cand_le (a i : Nat) : 1 ≤ cand a i ∧ cand a i ≤ 20 := by unfold cand; omega
/-- The next one's place among them. -/
def nextP (a : Nat) (l : List Int) : Option Nat := (List.range 20).find? fun i => !l.contains ((cand a i : Nat) : Int)
theorem cand_all (a : Nat) {x : Int} (h1 : 1 ≤ x) (h2 : x ≤ 20) : ∃ i, i < 20 ∧ ((cand a i : Nat) : Int) = x := by
  refine ⟨(x.toNat + 20 * 20 - 1 - a % 20) % 20, Nat.mod_lt _ (by decide), ?_⟩
  unfold cand
  omega
theorem nextP_none {a : Nat} {l : List Int} (h : nextP a l = none) {x : Int} (h1 : 1 ≤ x) (h2 : x ≤ 20) : x ∈ l := by
  obtain ⟨i, hi, rfl⟩ := cand_all a h1 h2
  have := List.find?_eq_none.1 h i (List.mem_range.2 hi)
  simpa using this
theorem Ids.full_of {a : Int} {l : List Int} (h : Ids a l) (hf : ∀ x : Int, 1 ≤ x → x ≤ 20 → x ∈ l) : l.length = 20 := by
  have e : all20.filter (fun x => l.contains x) = all20 := List.filter_eq_self.2 fun x hx => by
    have := mem_all20.1 hx
    simpa using hf x this.1 this.2
  rw [← h.canon, e]; rfl
theorem range_find {p : Nat → Bool} {i n : Nat} (h : (List.range n).find? p = some i) : i < n ∧ p i = true ∧ ∀ j, j < i → p j = false := by
  refine ⟨List.mem_range.1 (List.mem_of_find?_eq_some h), List.find?_some h, fun j hj => ?_⟩
  rw [List.find?_range_eq_some] at h
  simpa using h.2.2 j hj
theorem nextP_some {a : Nat} {l : List Int} {i : Nat} (h : nextP a l = some i) : i < 20 ∧ ((cand a i : Nat) : Int) ∉ l ∧ ∀ j, j < i → ((cand a j : Nat) : Int) ∈ l := by
  obtain ⟨h1, h2, h3⟩ := range_find h
  exact ⟨h1, by simpa using h2, fun j hj => by simpa using h3 j hj⟩
theorem Ids.taken {a : Int} {l : List Int} {n i : Nat} (h : Ids a l) (hn : nextP n l = some i) : Ids ((cand n i : Nat) : Int) (insP l ((cand n i : Nat) : Int)) := by
  obtain ⟨h1, h2, h3⟩ := nextP_some hn
  have h4 := cand_le n i
  refine ⟨by omega, by omega, up_insP h.up h2, fun x hx => ?_⟩
  rcases mem_insP.1 hx with rfl | hx
  · omega
  · exact h.m x hx
theorem Ids.freed {a : Int} {l : List Int} {x : Int} (h : Ids a l) (hx : x ∈ l) : Ids a (delP l x) :=
  ⟨h.a0, h.a1, up_delP h.up hx, fun y hy => h.m y ((mem_delP h.up hx).1 hy).1⟩
theorem Ids.none_iff {a : Int} {l : List Int} {n : Nat} (h : Ids a l) : nextP n l = none ↔ l.length = 20 := by
  constructor
  · exact fun hn => h.full_of fun x h1 h2 => nextP_none hn h1 h2
  · intro hl
    refine List.find?_eq_none.2 fun i _ => ?_
    have h4 := cand_le n i
    have := h.full hl (x := ((cand n i : Nat) : Int)) (by omega) (by omega)
    simpa using this
/-- The reference's row, with one more. -/
theorem ref_taken {a : Int} {l : List Int} {n i : Nat} (h : Ids a l) (hn : nextP n l = some i) : all20.filter (fun x => x == ((cand n i : Nat) : Int) || l.contains x) = insP l ((cand n i : Nat) : Int) :=
  filter_all20 _ (h.taken hn).up fun x => by
    have h4 := cand_le n i
    rw [mem_insP, Bool.or_eq_true, beq_iff_eq, List.contains_iff_mem]
    constructor
    · rintro (rfl | hx)
      · exact ⟨by omega, .inl rfl⟩
      · exact ⟨h.m x hx, .inr hx⟩
    · exact fun hx => hx.2
end Go.Proofs.Ytfohifnbohdbcaa
