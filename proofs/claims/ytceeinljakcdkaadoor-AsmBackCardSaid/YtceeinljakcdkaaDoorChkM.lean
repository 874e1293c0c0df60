/-
  Which programs may be, what comes next, what is reached, how many steps: plain functions over rows of instructions.
-/
import Derived.Test.YtceeinljakcdkaaDoorIns
namespace Go.Proofs.YtceeinljakcdkaaDoor
open Go.RowKit

/-- Why an instruction may not stand where so many come behind it. -/
def oneL (left : Int) (q : Ins) : Int :=
  if rowC q.1 = none then 141
  else if q.1 = 32 ∧ (q.2.2.2 % 4 ≠ 0 ∨ 64 ≤ q.2.2.2) then 142
  else if q.1 = 52 ∧ q.2.2.2 = 0 then 143
  else if (q.1 = 100 ∨ q.1 = 116) ∧ 32 ≤ q.2.2.2 then 144
  else if formOf q.1 = 3 then (if 16 ≤ q.2.2.2 then 145 else 0)
  else if formOf q.1 = 4 then (if left ≤ q.2.2.2 then 146 else 0)
  else if formOf q.1 = 5 ∨ formOf q.1 = 6 then (if left ≤ q.2.1 ∨ left ≤ q.2.2.1 then 146 else 0)
  else 0
def retI (q : Ins) : Bool := decide (q.1 = 6 ∨ q.1 = 22)
def oneAt (f : Nat → Ins) (n i : Nat) : Int := oneL ((n : Int) - 1 - i) (f i)
/-- The first place where one may not stand. -/
def badAt (f : Nat → Ins) (n : Nat) : Option Nat := (List.range n).find? fun i => oneAt f n i != 0
def chkI (f : Nat → Ins) (n : Nat) : Int × Int :=
  if n < 1 ∨ 64 < n then (0, 140)
  else match badAt f n with
    | some i => (i, oneAt f n i)
    | none => if retI (f (n - 1)) then (0, 0) else ((n : Int) - 1, 147)
/-- What comes next of an instruction at a place. -/
def nextL (q : Ins) (i : Nat) : List Nat :=
  if 255 < i ∨ formOf q.1 = -1 ∨ retI q = true ∨ (formOf q.1 = 4 ∧ 255 < q.2.2.2) then []
  else if formOf q.1 = 4 then [i + 1 + q.2.2.2.toNat]
  else if formOf q.1 = 5 ∨ formOf q.1 = 6 then
    (if q.2.1 = q.2.2.1 then [i + 1 + q.2.1.toNat] else if q.2.1 < q.2.2.1 then [i + 1 + q.2.1.toNat, i + 1 + q.2.2.1.toNat] else [i + 1 + q.2.2.1.toNat, i + 1 + q.2.1.toNat])
  else [i + 1]
/-- The places that are met behind the first k of them. -/
def metL (f : Nat → Ins) : Nat → Nat → Bool
  | 0 => fun p => decide (p = 0)
  | k + 1 => fun p => metL f k p || (metL f k k && decide (p ∈ nextL (f k) k))
def reachI (f : Nat → Ins) (n : Nat) : List Nat := (List.range n).filter fun i => metL f i i

theorem oneL_ok {left : Int} {q : Ins} (h : oneL left q = 0) : rowC q.1 ≠ none ∧ (formOf q.1 = 3 → q.2.2.2 < 16) ∧ (formOf q.1 = 4 → q.2.2.2 < left) ∧ (formOf q.1 = 5 ∨ formOf q.1 = 6 → q.2.1 < left ∧ q.2.2.1 < left) := by
  unfold oneL at h
  by_cases h1 : rowC q.1 = none
  · rw [if_pos h1] at h; omega
  · rw [if_neg h1] at h
    by_cases h2 : q.1 = 32 ∧ (q.2.2.2 % 4 ≠ 0 ∨ 64 ≤ q.2.2.2)
    · rw [if_pos h2] at h; omega
    · rw [if_neg h2] at h
      by_cases h3 : q.1 = 52 ∧ q.2.2.2 = 0
      · rw [if_pos h3] at h; omega
      · rw [if_neg h3] at h
        by_cases h4 : (q.1 = 100 ∨ q.1 = 116) ∧ 32 ≤ q.2.2.2
        · rw [if_pos h4] at h; omega
        · rw [if_neg h4] at h
          by_cases h5 : formOf q.1 = 3
          · rw [if_pos h5] at h
            refine ⟨h1, fun _ => ?_, fun hh => by omega, fun hh => by omega⟩
            split at h <;> omega
          · rw [if_neg h5] at h
            by_cases h6 : formOf q.1 = 4
            · rw [if_pos h6] at h
              refine ⟨h1, fun hh => absurd hh h5, fun _ => ?_, fun hh => by omega⟩
              split at h <;> omega
            · rw [if_neg h6] at h
              by_cases h7 : formOf q.1 = 5 ∨ formOf q.1 = 6
              · rw [if_pos h7] at h
                refine ⟨h1, fun hh => absurd hh h5, fun hh => absurd hh h6, fun _ => ?_⟩
                split at h
                · omega
                · rename_i h8; omega
              · exact ⟨h1, fun hh => absurd hh h5, fun hh => absurd hh h6, fun hh => absurd hh h7⟩
theorem form_row {c : Int} (h : rowC c ≠ none) : formOf c ≠ -1 := by
  unfold formOf
  cases hr : rowC c with
  | none => exact absurd hr h
  | some i =>
    have hi := List.mem_of_find?_eq_some hr
    have hall : ((List.range 41).all fun i => decide (0 ≤ kF i)) = true := by decide
    have := List.all_eq_true.1 hall i hi
    simp only [decide_eq_true_eq] at this
    simp only
    omega
/-- What comes next lies behind, and within. -/
theorem next_in {f : Nat → Ins} {n i : Nat} (hq : insO (f i)) (h : oneAt f n i = 0) (hr : retI (f i) = false) (hl : i + 1 < n) (hn : n ≤ 255) : nextL (f i) i ≠ [] ∧ ∀ p ∈ nextL (f i) i, i < p ∧ p < n := by
  obtain ⟨h1, _, h4, h5⟩ := oneL_ok h
  have hf := form_row h1
  obtain ⟨_, _, a0, _, b0, _, k0, _⟩ := hq
  unfold nextL
  have hc : ¬ (255 < i ∨ formOf (f i).1 = -1 ∨ retI (f i) = true ∨ (formOf (f i).1 = 4 ∧ 255 < (f i).2.2.2)) := by
    rintro (h | h | h | ⟨h, hh⟩)
    · omega
    · exact hf h
    · rw [hr] at h; cases h
    · have := h4 h; omega
  rw [if_neg hc]
  by_cases h6 : formOf (f i).1 = 4
  · have := h4 h6
    rw [if_pos h6]
    refine ⟨by simp, fun p hp => ?_⟩
    simp only [List.mem_singleton] at hp
    omega
  · rw [if_neg h6]
    by_cases h7 : formOf (f i).1 = 5 ∨ formOf (f i).1 = 6
    · obtain ⟨h8, h9⟩ := h5 h7
      rw [if_pos h7]
      split
      · refine ⟨by simp, fun p hp => ?_⟩
        simp only [List.mem_singleton] at hp
        omega
      · split
        · refine ⟨by simp, fun p hp => ?_⟩
          simp only [List.mem_cons, List.not_mem_nil, or_false] at hp
          rcases hp with rfl | rfl <;> omega
        · refine ⟨by simp, fun p hp => ?_⟩
          simp only [List.mem_cons, List.not_mem_nil, or_false] at hp
          rcases hp with rfl | rfl <;> omega
    · rw [if_neg h7]
      refine ⟨by simp, fun p hp => ?_⟩
      simp only [List.mem_singleton] at hp
      omega

theorem find_none' {p : Nat → Bool} {n : Nat} : (List.range n).find? p = none ↔ ∀ i, i < n → p i = false := by
  rw [List.find?_eq_none]
  simp
theorem find_some' {p : Nat → Bool} {n i : Nat} : (List.range n).find? p = some i ↔ i < n ∧ p i = true ∧ ∀ j, j < i → p j = false := by
  induction n with
  | zero => simp
  | succ n ih =>
    rw [List.range_succ, List.find?_append]
    cases h : (List.range n).find? p with
    | some a =>
      have ha := ih.1
      rw [h] at ih
      simp only [Option.some_or, Option.some.injEq]
      constructor
      · rintro rfl
        obtain ⟨h1, h2, h3⟩ := ih.1 rfl
        exact ⟨by omega, h2, h3⟩
      · rintro ⟨h1, h2, h3⟩
        have hn := List.find?_some h
        have hm : a < n := by simpa using List.mem_of_find?_eq_some h
        rcases Nat.lt_trichotomy a i with hlt | heq | hgt
        · rw [h3 a hlt] at hn; cases hn
        · exact heq
        · have := ih.2 ⟨by omega, h2, h3⟩
          simpa using this
    | none =>
      have hno := find_none'.1 h
      simp only [Option.none_or, List.find?_cons, List.find?_nil]
      cases hp : p n with
      | true =>
        simp only [Option.some.injEq]
        constructor
        · rintro rfl; exact ⟨by omega, hp, hno⟩
        · rintro ⟨h1, h2, h3⟩
          rcases Nat.lt_or_ge i n with hlt | hge
          · rw [hno i hlt] at h2; cases h2
          · omega
      | false =>
        constructor
        · intro hh; cases hh
        · rintro ⟨h1, h2, _⟩
          rcases Nat.lt_or_ge i n with hlt | hge
          · rw [hno i hlt] at h2; cases h2
          · obtain rfl : i = n := by omega
            rw [hp] at h2; cases h2

/-- A program that may be. -/
structure May (f : Nat → Ins) (n : Nat) : Prop where
  lo : 1 ≤ n
  hi : n ≤ 64
  one : ∀ i, i < n → oneAt f n i = 0
  ret : retI (f (n - 1)) = true
theorem chk_may {f : Nat → Ins} {n : Nat} (h : May f n) : chkI f n = (0, 0) := by
  have hb : badAt f n = none := find_none'.2 fun i hi => by simp [h.one i hi]
  unfold chkI
  rw [if_neg (by have := h.lo; have := h.hi; omega), hb]
  simp [h.ret]
theorem may_chk {f : Nat → Ins} {n : Nat} (h : (chkI f n).2 = 0) : May f n := by
  unfold chkI at h
  by_cases hs : n < 1 ∨ 64 < n
  · rw [if_pos hs] at h; cases h
  · rw [if_neg hs] at h
    cases hb : badAt f n with
    | some i =>
      rw [hb] at h
      have := find_some'.1 hb
      simp only at h
      rw [h] at this
      simp at this
    | none =>
      rw [hb] at h
      simp only at h
      have hn := find_none'.1 hb
      cases hr : retI (f (n - 1)) with
      | false => rw [hr] at h; simp at h
      | true => exact ⟨by omega, by omega, fun i hi => by simpa using hn i hi, hr⟩
/-- The first that may not stand. -/
theorem chk_bad {f : Nat → Ins} {n i : Nat} (h1 : 1 ≤ n) (h2 : n ≤ 64) (hi : i < n) (hb : oneAt f n i ≠ 0) (hp : ∀ j, j < i → oneAt f n j = 0) : chkI f n = ((i : Int), oneAt f n i) := by
  have : badAt f n = some i := find_some'.2 ⟨hi, by simpa using hb, fun j hj => by simp [hp j hj]⟩
  unfold chkI
  rw [if_neg (by omega), this]
theorem chk_last {f : Nat → Ins} {n : Nat} (h1 : 1 ≤ n) (h2 : n ≤ 64) (hp : ∀ j, j < n → oneAt f n j = 0) (hr : retI (f (n - 1)) = false) : chkI f n = ((n : Int) - 1, 147) := by
  have : badAt f n = none := find_none'.2 fun i hi => by simp [hp i hi]
  unfold chkI
  rw [if_neg (by omega), this]
  simp [hr]
theorem chk_size {f : Nat → Ins} {n : Nat} (h : n < 1 ∨ 64 < n) : chkI f n = (0, 140) := by unfold chkI; rw [if_pos h]
theorem chk_cases (f : Nat → Ins) (n : Nat) : (n < 1 ∨ 64 < n) ∨ (∃ i, i < n ∧ oneAt f n i ≠ 0 ∧ ∀ j, j < i → oneAt f n j = 0) ∨ ((∀ j, j < n → oneAt f n j = 0) ∧ retI (f (n - 1)) = false) ∨ May f n := by
  by_cases hs : n < 1 ∨ 64 < n
  · exact .inl hs
  · right
    cases hb : badAt f n with
    | some i =>
      obtain ⟨h1, h2, h3⟩ := find_some'.1 hb
      exact .inl ⟨i, h1, by simpa using h2, fun j hj => by simpa using h3 j hj⟩
    | none =>
      have hn := find_none'.1 hb
      right
      cases hr : retI (f (n - 1)) with
      | false => exact .inl ⟨fun j hj => by simpa using hn j hj, rfl⟩
      | true => exact .inr ⟨by omega, by omega, fun i hi => by simpa using hn i hi, hr⟩

/-- One ahead: the instruction x, then f. -/
def ahead (x : Ins) (f : Nat → Ins) : Nat → Ins
  | 0 => x
  | i + 1 => f i
theorem one_ahead (x : Ins) (f : Nat → Ins) (n i : Nat) : oneAt (ahead x f) (n + 1) (i + 1) = oneAt f n i := by
  unfold oneAt ahead
  congr 1
  omega
theorem row_0 : rowC 0 ≠ none := by decide
theorem form_0 : formOf 0 = 1 := by rfl
theorem one_imm (k left : Int) : oneL left (0, 0, 0, k) = 0 := by
  unfold oneL
  simp only [form_0]
  rw [if_neg row_0]
  simp
/-- Longer by ld.imm ahead: the same error, where both are of the right size. -/
theorem chk_longer (f : Nat → Ins) (n : Nat) (k : Int) (h1 : 1 ≤ n) (h2 : n < 64) : (chkI (ahead (0, 0, 0, k) f) (n + 1)).2 = (chkI f n).2 := by
  have h0 : oneAt (ahead (0, 0, 0, k) f) (n + 1) 0 = 0 := one_imm k _
  rcases chk_cases f n with h | ⟨i, hi, hb, hp⟩ | ⟨hp, hr⟩ | h
  · omega
  · rw [chk_bad h1 (by omega) hi hb hp, chk_bad (i := i + 1) (by omega) (by omega) (by omega) (by rw [one_ahead]; exact hb) (fun j hj => by
      cases j with
      | zero => exact h0
      | succ j => rw [one_ahead]; exact hp j (by omega)), one_ahead]
  · rw [chk_last h1 (by omega) hp hr, chk_last (by omega) (by omega) (fun j hj => by
      cases j with
      | zero => exact h0
      | succ j => rw [one_ahead]; exact hp j (by omega)) (by
        obtain ⟨m, rfl⟩ : ∃ m, n = m + 1 := ⟨n - 1, by omega⟩
        exact hr)]
  · rw [chk_may h, chk_may ⟨by omega, by omega, fun j hj => by
      cases j with
      | zero => exact h0
      | succ j => rw [one_ahead]; exact h.one j (by omega), by
        obtain ⟨m, rfl⟩ : ∃ m, n = m + 1 := ⟨n - 1, by omega⟩
        exact h.ret⟩]
theorem chk_alone (k : Int) (f : Nat → Ins) : chkI (ahead (0, 0, 0, k) f) 1 = (0, 147) := by
  rw [chk_last (by omega) (by omega) (fun j hj => by
    obtain rfl : j = 0 := by omega
    exact one_imm k _) (by simp [retI, ahead])]
  rfl
/-- Without the first one. -/
theorem may_tail {f : Nat → Ins} {n : Nat} (h : May f n) (h1 : 1 < n) : May (fun i => f (i + 1)) (n - 1) := by
  refine ⟨by omega, by have := h.hi; omega, fun i hi => ?_, ?_⟩
  · have := h.one (i + 1) (by omega)
    unfold oneAt at this ⊢
    rw [show (((n - 1 : Nat) : Int)) - 1 - i = (n : Int) - 1 - ((i + 1 : Nat) : Int) by omega]
    exact this
  · have := h.ret
    rw [show n - 1 - 1 + 1 = n - 1 by omega]
    exact this
/-- Another one put at a place. -/
def putI (f : Nat → Ins) (k : Nat) (x : Ins) : Nat → Ins := fun i => if i = k then x else f i
theorem one_put_ne {f : Nat → Ins} {n k i : Nat} {x : Ins} (h : i ≠ k) : oneAt (putI f k x) n i = oneAt f n i := by unfold oneAt putI; rw [if_neg h]
theorem one_put_eq {f : Nat → Ins} {n k : Nat} {x : Ins} : oneAt (putI f k x) n k = oneL ((n : Int) - 1 - k) x := by unfold oneAt putI; rw [if_pos rfl]
theorem put_bad {f : Nat → Ins} {n k : Nat} {x : Ins} (h : May f n) (hk : k < n) (hx : oneL ((n : Int) - 1 - k) x ≠ 0) : chkI (putI f k x) n = ((k : Int), oneL ((n : Int) - 1 - k) x) := by
  rw [chk_bad h.lo h.hi hk (by rw [one_put_eq]; exact hx) (fun j hj => by rw [one_put_ne (by omega)]; exact h.one j (by omega)), one_put_eq]
theorem put_one {f : Nat → Ins} {n k : Nat} {x : Ins} (h : May f n) (hk : k < n) (hx : oneL ((n : Int) - 1 - k) x = 0) : ∀ j, j < n → oneAt (putI f k x) n j = 0 := fun j hj => by
  by_cases hjk : j = k
  · subst hjk; rw [one_put_eq]; exact hx
  · rw [one_put_ne hjk]; exact h.one j hj
theorem put_last {f : Nat → Ins} {n k : Nat} {x : Ins} (h : May f n) (hk : k = n - 1) (hx : oneL ((n : Int) - 1 - k) x = 0) (hr : retI x = false) : chkI (putI f k x) n = ((k : Int), 147) := by
  have h1 := h.lo
  rw [chk_last h.lo h.hi (put_one h (by omega) hx) (by unfold putI; rw [if_pos hk.symm]; exact hr)]
  congr 1
  omega
theorem put_may {f : Nat → Ins} {n k : Nat} {x : Ins} (h : May f n) (hk : k < n) (hx : oneL ((n : Int) - 1 - k) x = 0) (hr : k = n - 1 → retI x = true) : May (putI f k x) n := by
  refine ⟨h.lo, h.hi, put_one h hk hx, ?_⟩
  unfold putI
  by_cases e : n - 1 = k
  · rw [if_pos e]; exact hr e.symm
  · rw [if_neg e]; exact h.ret
end Go.Proofs.YtceeinljakcdkaaDoor
