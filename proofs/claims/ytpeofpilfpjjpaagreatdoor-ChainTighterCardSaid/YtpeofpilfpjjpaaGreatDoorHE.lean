/-
  ChkM, ChkS, TabM: in one file.
-/
import Derived.Test.YtpeofpilfpjjpaaGreatDoorHI
import Derived.Laws.Strings
/-
  Which programs may be, what comes next, what is reached, how many steps: plain functions over rows of instructions.
-/
namespace Go.Proofs.YtpeofpilfpjjpaaGreatDoor
open Go.RowKit

/-- Why an instruction may not stand where so many come behind it. -/
def oneL (left : Int) (q : Ins) : Int :=
  if rowC q.1 = none then 141
  else if q.1 = 32 ∧ (q.2.2.2 % 4 ≠ 0 ∨ 64 ≤ q.2.2.2) then 142
  else if q.1 = 52 ∧ q.2.2.2 = 0 then 143
  else if (q.1 = 100 ∨ q.1 = 116) ∧ 32 ≤ q.2.2.2 then 144
  else if formOf q.1 = 3 then (if 16 ≤ q.2.2.2 then 145 else 0)
  else if formOf q.1 = 4 then (if left ≤ q.2.2.2 then 146 else 0)
  else if formOf q.1 = 5 ∨ formOf q.1 = 6 then (if left ≤ q.2.1 ∨ left ≤ q.2.2.1 then 146 else 0)
  else 0
def retI (q : Ins) : Bool := decide (q.1 = 6 ∨ q.1 = 22)
def oneAt (f : Nat → Ins) (n i : Nat) : Int := oneL ((n : Int) - 1 - i) (f i)
/-- The first place where one may not stand. -/
def badAt (f : Nat → Ins) (n : Nat) : Option Nat := (List.range n).find? fun i => oneAt f n i != 0
def chkI (f : Nat → Ins) (n : Nat) : Int × Int :=
  if n < 1 ∨ 64 < n then (0, 140)
  else match badAt f n with
    | some i => (i, oneAt f n i)
    | none => if retI (f (n - 1)) then (0, 0) else ((n : Int) - 1, 147)
/-- What comes next of an instruction at a place. -/
def nextL (q : Ins) (i : Nat) : List Nat :=
  if 255 < i ∨ formOf q.1 = -1 ∨ retI q = true ∨ (formOf q.1 = 4 ∧ 255 < q.2.2.2) then []
  else if formOf q.1 = 4 then [i + 1 + q.2.2.2.toNat]
  else if formOf q.1 = 5 ∨ formOf q.1 = 6 then
    (if q.2.1 = q.2.2.1 then [i + 1 + q.2.1.toNat] else if q.2.1 < q.2.2.1 then [i + 1 + q.2.1.toNat, i + 1 + q.2.2.1.toNat] else [i + 1 + q.2.2.1.toNat, i + 1 + q.2.1.toNat])
  else [i + 1]
/-- The places that are met behind the first k of them. -/
def metL (f : Nat → Ins) : Nat → Nat → Bool
  | 0 => fun p => decide (p = 0)
  | k + 1 => fun p => metL f k p || (metL f k k && decide (p ∈ nextL (f k) k))
def reachI (f : Nat → Ins) (n : Nat) : List Nat := (List.range n).filter fun i => metL f i i

theorem oneL_ok {left : Int} {q : Ins} (h : oneL left q = 0) : rowC q.1 ≠ none ∧ (formOf q.1 = 3 → q.2.2.2 < 16) ∧ (formOf q.1 = 4 → q.2.2.2 < left) ∧ (formOf q.1 = 5 ∨ formOf q.1 = 6 → q.2.1 < left ∧ q.2.2.1 < left) := by
  unfold oneL at h
  by_cases h1 : rowC q.1 = none
  · rw [if_pos h1] at h; omega
  · rw [if_neg h1] at h
    by_cases h2 : q.1 = 32 ∧ (q.2.2.2 % 4 ≠ 0 ∨ 64 ≤ q.2.2.2)
    · rw [if_pos h2] at h; omega
    · rw [if_neg h2] at h
      by_cases h3 : q.1 = 52 ∧ q.2.2.2 = 0
      · rw [if_pos h3] at h; omega
      · rw [if_neg h3] at h
        by_cases h4 : (q.1 = 100 ∨ q.1 = 116) ∧ 32 ≤ q.2.2.2
        · rw [if_pos h4] at h; omega
        · rw [if_neg h4] at h
          by_cases h5 : formOf q.1 = 3
          · rw [if_pos h5] at h
            refine ⟨h1, fun _ => ?_, fun hh => by omega, fun hh => by omega⟩
            split at h <;> omega
          · rw [if_neg h5] at h
            by_cases h6 : formOf q.1 = 4
            · rw [if_pos h6] at h
              refine ⟨h1, fun hh => absurd hh h5, fun _ => ?_, fun hh => by omega⟩
              split at h <;> omega
            · rw [if_neg h6] at h
              by_cases h7 : formOf q.1 = 5 ∨ formOf q.1 = 6
              · rw [if_pos h7] at h
                refine ⟨h1, fun hh => absurd hh h5, fun hh => absurd hh h6, fun _ => ?_⟩
                split at h
                · omega
                · rename_i h8; omega
              · exact ⟨h1, fun hh => absurd hh h5, fun hh => absurd hh h6, fun hh => absurd hh h7⟩
theorem form_row {c : Int} (h : rowC c ≠ none) : formOf c ≠ -1 := by
  unfold formOf
  cases hr : rowC c with
  | none => exact absurd hr h
  | some i =>
    have hi := List.mem_of_find?_eq_some hr
    have hall : ((List.range 41).all fun i => decide (0 ≤ kF i)) = true := by decide
    have := List.all_eq_true.1 hall i hi
    simp only [decide_eq_true_eq] at this
    simp only
    omega
/-- What comes next lies behind, and within. -/
theorem next_in {f : Nat → Ins} {n i : Nat} (hq : insO (f i)) (h : oneAt f n i = 0) (hr : retI (f i) = false) (hl : i + 1 < n) (hn : n ≤ 255) : nextL (f i) i ≠ [] ∧ ∀ p ∈ nextL (f i) i, i < p ∧ p < n := by
  obtain ⟨h1, _, h4, h5⟩ := oneL_ok h
  have hf := form_row h1
  obtain ⟨_, _, a0, _, b0, _, k0, _⟩ := hq
  unfold nextL
  have hc : ¬ (255 < i ∨ formOf (f i).1 = -1 ∨ retI (f i) = true ∨ (formOf (f i).1 = 4 ∧ 255 < (f i).2.2.2)) := by
    rintro (h | h | h | ⟨h, hh⟩)
    · omega
    · exact hf h
    · rw [hr] at h; cases h
    · have := h4 h; omega
  rw [if_neg hc]
  by_cases h6 : formOf (f i).1 = 4
  · have := h4 h6
    rw [if_pos h6]
    refine ⟨by simp, fun p hp => ?_⟩
    simp only [List.mem_singleton] at hp
    omega
  · rw [if_neg h6]
    by_cases h7 : formOf (f i).1 = 5 ∨ formOf (f i).1 = 6
    · obtain ⟨h8, h9⟩ := h5 h7
      rw [if_pos h7]
      split
      · refine ⟨by simp, fun p hp => ?_⟩
        simp only [List.mem_singleton] at hp
        omega
      · split
        · refine ⟨by simp, fun p hp => ?_⟩
          simp only [List.mem_cons, List.not_mem_nil, or_false] at hp
          rcases hp with rfl | rfl <;> omega
        · refine ⟨by simp, fun p hp => ?_⟩
          simp only [List.mem_cons, List.not_mem_nil, or_false] at hp
          rcases hp with rfl | rfl <;> omega
    · rw [if_neg h7]
      refine ⟨by simp, fun p hp => ?_⟩
      simp only [List.mem_singleton] at hp
      omega

theorem find_none' {p : Nat → Bool} {n : Nat} : (List.range n).find? p = none ↔ ∀ i, i < n → p i = false := by
  rw [List.find?_eq_none]
  simp
theorem find_some' {p : Nat → Bool} {n i : Nat} : (List.range n).find? p = some i ↔ i < n ∧ p i = true ∧ ∀ j, j < i → p j = false := by
  induction n with
  | zero => simp
  | succ n ih =>
    rw [List.range_succ, List.find?_append]
    cases h : (List.range n).find? p with
    | some a =>
      have ha := ih.1
      rw [h] at ih
      simp only [Option.some_or, Option.some.injEq]
      constructor
      · rintro rfl
        obtain ⟨h1, h2, h3⟩ := ih.1 rfl
        exact ⟨by omega, h2, h3⟩
      · rintro ⟨h1, h2, h3⟩
        have hn := List.find?_some h
        have hm : a < n := by simpa using List.mem_of_find?_eq_some h
        rcases Nat.lt_trichotomy a i with hlt | heq | hgt
        · rw [h3 a hlt] at hn; cases hn
        · exact heq
        · have := ih.2 ⟨by omega, h2, h3⟩
          simpa using this
    | none =>
      have hno := find_none'.1 h
      simp only [Option.none_or, List.find?_cons, List.find?_nil]
      cases hp : p n with
      | true =>
        simp only [Option.some.injEq]
        constructor
        · rintro rfl; exact ⟨by omega, hp, hno⟩
        · rintro ⟨h1, h2, h3⟩
          rcases Nat.lt_or_ge i n with hlt | hge
          · rw [hno i hlt] at h2; cases h2
          · omega
      | false =>
        constructor
        · intro hh; cases hh
        · rintro ⟨h1, h2, _⟩
          rcases Nat.lt_or_ge i n with hlt | hge
          · rw [hno i hlt] at h2; cases h2
          · obtain rfl : i = n := by omega
            rw [hp] at h2; cases h2

/-- A program that may be. -/
structure May (f : Nat → Ins) (n : Nat) : Prop where
  lo : 1 ≤ n
  hi : n ≤ 64
  one : ∀ i, i < n → oneAt f n i = 0
  ret : retI (f (n - 1)) = true
theorem chk_may {f : Nat → Ins} {n : Nat} (h : May f n) : chkI f n = (0, 0) := by
  have hb : badAt f n = none := find_none'.2 fun i hi => by simp [h.one i hi]
  unfold chkI
  rw [if_neg (by have := h.lo; have := h.hi; omega), hb]
  simp [h.ret]
theorem may_chk {f : Nat → Ins} {n : Nat} (h : (chkI f n).2 = 0) : May f n := by
  unfold chkI at h
  by_cases hs : n < 1 ∨ 64 < n
  · rw [if_pos hs] at h; cases h
  · rw [if_neg hs] at h
    cases hb : badAt f n with
    | some i =>
      rw [hb] at h
      have := find_some'.1 hb
      simp only at h
      rw [h] at this
      simp at this
    | none =>
      rw [hb] at h
      simp only at h
      have hn := find_none'.1 hb
      cases hr : retI (f (n - 1)) with
      | false => rw [hr] at h; simp at h
      | true => exact ⟨by omega, by omega, fun i hi => by simpa using hn i hi, hr⟩
/-- The first that may not stand. -/
theorem chk_bad {f : Nat → Ins} {n i : Nat} (h1 : 1 ≤ n) (h2 : n ≤ 64) (hi : i < n) (hb : oneAt f n i ≠ 0) (hp : ∀ j, j < i → oneAt f n j = 0) : chkI f n = ((i : Int), oneAt f n i) := by
  have : badAt f n = some i := find_some'.2 ⟨hi, by simpa using hb, fun j hj => by simp [hp j hj]⟩
  unfold chkI
  rw [if_neg (by omega), this]
theorem chk_last {f : Nat → Ins} {n : Nat} (h1 : 1 ≤ n) (h2 : n ≤ 64) (hp : ∀ j, j < n → oneAt f n j = 0) (hr : retI (f (n - 1)) = false) : chkI f n = ((n : Int) - 1, 147) := by
  have : badAt f n = none := find_none'.2 fun i hi => by simp [hp i hi]
  unfold chkI
  rw [if_neg (by omega), this]
  simp [hr]
theorem chk_size {f : Nat → Ins} {n : Nat} (h : n < 1 ∨ 64 < n) : chkI f n = (0, 140) := by unfold chkI; rw [if_pos h]
theorem chk_cases (f : Nat → Ins) (n : Nat) : (n < 1 ∨ 64 < n) ∨ (∃ i, i < n ∧ oneAt f n i ≠ 0 ∧ ∀ j, j < i → oneAt f n j = 0) ∨ ((∀ j, j < n → oneAt f n j = 0) ∧ retI (f (n - 1)) = false) ∨ May f n := by
  by_cases hs : n < 1 ∨ 64 < n
  · exact .inl hs
  · right
    cases hb : badAt f n with
    | some i =>
      obtain ⟨h1, h2, h3⟩ := find_some'.1 hb
      exact .inl ⟨i, h1, by simpa using h2, fun j hj => by simpa using h3 j hj⟩
    | none =>
      have hn := find_none'.1 hb
      right
      cases hr : retI (f (n - 1)) with
      | false => exact .inl ⟨fun j hj => by simpa using hn j hj, rfl⟩
      | true => exact .inr ⟨by omega, by omega, fun i hi => by simpa using hn i hi, hr⟩

/-- One ahead: the instruction x, then f. -/
def ahead (x : Ins) (f : Nat → Ins) : Nat → Ins
  | 0 => x
  | i + 1 => f i
theorem one_ahead (x : Ins) (f : Nat → Ins) (n i : Nat) : oneAt (ahead x f) (n + 1) (i + 1) = oneAt f n i := by
  unfold oneAt ahead
  congr 1
  omega
theorem row_0 : rowC 0 ≠ none := by decide
theorem form_0 : formOf 0 = 1 := by rfl
theorem one_imm (k left : Int) : oneL left (0, 0, 0, k) = 0 := by
  unfold oneL
  simp only [form_0]
  rw [if_neg row_0]
  simp
/-- Longer by ld.imm ahead: the same error, where both are of the right size. -/
theorem chk_longer (f : Nat → Ins) (n : Nat) (k : Int) (h1 : 1 ≤ n) (h2 : n < 64) : (chkI (ahead (0, 0, 0, k) f) (n + 1)).2 = (chkI f n).2 := by
  have h0 : oneAt (ahead (0, 0, 0, k) f) (n + 1) 0 = 0 := one_imm k _
  rcases chk_cases f n with h | ⟨i, hi, hb, hp⟩ | ⟨hp, hr⟩ | h
  · omega
  · rw [chk_bad h1 (by omega) hi hb hp, chk_bad (i := i + 1) (by omega) (by omega) (by omega) (by rw [one_ahead]; exact hb) (fun j hj => by
      cases j with
      | zero => exact h0
      | succ j => rw [one_ahead]; exact hp j (by omega)), one_ahead]
  · rw [chk_last h1 (by omega) hp hr, chk_last (by omega) (by omega) (fun j hj => by
      cases j with
      | zero => exact h0
      | succ j => rw [one_ahead]; exact hp j (by omega)) (by
        obtain ⟨m, rfl⟩ : ∃ m, n = m + 1 := ⟨n - 1, by omega⟩
        exact hr)]
  · rw [chk_may h, chk_may ⟨by omega, by omega, fun j hj => by
      cases j with
      | zero => exact h0
      | succ j => rw [one_ahead]; exact h.one j (by omega), by
        obtain ⟨m, rfl⟩ : ∃ m, n = m + 1 := ⟨n - 1, by omega⟩
        exact h.ret⟩]
theorem chk_alone (k : Int) (f : Nat → Ins) : chkI (ahead (0, 0, 0, k) f) 1 = (0, 147) := by
  rw [chk_last (by omega) (by omega) (fun j hj => by
    obtain rfl : j = 0 := by omega
    exact one_imm k _) (by simp [retI, ahead])]
  rfl
/-- Without the first one. -/
theorem may_tail {f : Nat → Ins} {n : Nat} (h : May f n) (h1 : 1 < n) : May (fun i => f (i + 1)) (n - 1) := by
  refine ⟨by omega, by have := h.hi; omega, fun i hi => ?_, ?_⟩
  · have := h.one (i + 1) (by omega)
    unfold oneAt at this ⊢
    rw [show (((n - 1 : Nat) : Int)) - 1 - i = (n : Int) - 1 - ((i + 1 : Nat) : Int) by omega]
    exact this
  · have := h.ret
    rw [show n - 1 - 1 + 1 = n - 1 by omega]
    exact this
/-- Another one put at a place. -/
def putI (f : Nat → Ins) (k : Nat) (x : Ins) : Nat → Ins := fun i => if i = k then x else f i
theorem one_put_ne {f : Nat → Ins} {n k i : Nat} {x : Ins} (h : i ≠ k) : oneAt (putI f k x) n i = oneAt f n i := by unfold oneAt putI; rw [if_neg h]
theorem one_put_eq {f : Nat → Ins} {n k : Nat} {x : Ins} : oneAt (putI f k x) n k = oneL ((n : Int) - 1 - k) x := by unfold oneAt putI; rw [if_pos rfl]
theorem put_bad {f : Nat → Ins} {n k : Nat} {x : Ins} (h : May f n) (hk : k < n) (hx : oneL ((n : Int) - 1 - k) x ≠ 0) : chkI (putI f k x) n = ((k : Int), oneL ((n : Int) - 1 - k) x) := by
  rw [chk_bad h.lo h.hi hk (by rw [one_put_eq]; exact hx) (fun j hj => by rw [one_put_ne (by omega)]; exact h.one j (by omega)), one_put_eq]
theorem put_one {f : Nat → Ins} {n k : Nat} {x : Ins} (h : May f n) (hk : k < n) (hx : oneL ((n : Int) - 1 - k) x = 0) : ∀ j, j < n → oneAt (putI f k x) n j = 0 := fun j hj => by
  by_cases hjk : j = k
  · subst hjk; rw [one_put_eq]; exact hx
  · rw [one_put_ne hjk]; exact h.one j hj
theorem put_last {f : Nat → Ins} {n k : Nat} {x : Ins} (h : May f n) (hk : k = n - 1) (hx : oneL ((n : Int) - 1 - k) x = 0) (hr : retI x = false) : chkI (putI f k x) n = ((k : Int), 147) := by
  have h1 := h.lo
  rw [chk_last h.lo h.hi (put_one h (by omega) hx) (by unfold putI; rw [if_pos hk.symm]; exact hr)]
  congr 1
  omega
theorem put_may {f : Nat → Ins} {n k : Nat} {x : Ins} (h : May f n) (hk : k < n) (hx : oneL ((n : Int) - 1 - k) x = 0) (hr : k = n - 1 → retI x = true) : May (putI f k x) n := by
  refine ⟨h.lo, h.hi, put_one h hk hx, ?_⟩
  unfold putI
  by_cases e : n - 1 = k
  · rw [if_pos e]; exact hr e.symm
  · rw [if_neg e]; exact h.ret
end Go.Proofs.YtpeofpilfpjjpaaGreatDoor

/-
  What is reached, and how many steps there are: plain lemmas over rows of instructions.
-/
namespace Go.Proofs.YtpeofpilfpjjpaaGreatDoor
open Go.RowKit

/-- The greatest number of steps from a place, so many places ahead at most. -/
def stp (f : Nat → Ins) : Nat → Nat → Nat
  | 0, _ => 0
  | k + 1, i => (nextL (f i) i).foldl (fun a p => max a (1 + stp f k p)) 1
def mostI (f : Nat → Ins) (n : Nat) : Nat := stp f n 0

theorem foldl_max_ge (g : Nat → Nat) (l : List Nat) (a : Nat) : a ≤ l.foldl (fun a p => max a (g p)) a ∧ ∀ p ∈ l, g p ≤ l.foldl (fun a p => max a (g p)) a := by
  induction l generalizing a with
  | nil => exact ⟨Nat.le_refl _, fun p hp => by cases hp⟩
  | cons x l ih =>
    obtain ⟨h1, h2⟩ := ih (max a (g x))
    refine ⟨by simp only [List.foldl_cons]; omega, fun p hp => ?_⟩
    simp only [List.foldl_cons]
    rcases List.mem_cons.1 hp with rfl | hp
    · omega
    · exact h2 p hp
theorem foldl_max_le (g : Nat → Nat) (l : List Nat) (a b : Nat) (ha : a ≤ b) (h : ∀ p ∈ l, g p ≤ b) : l.foldl (fun a p => max a (g p)) a ≤ b := by
  induction l generalizing a with
  | nil => exact ha
  | cons x l ih =>
    simp only [List.foldl_cons]
    exact ih _ (by have := h x (by simp); omega) (fun p hp => h p (by simp [hp]))
theorem foldl_max_congr (g g' : Nat → Nat) (l : List Nat) (a : Nat) (h : ∀ p ∈ l, g p = g' p) : l.foldl (fun a p => max a (g p)) a = l.foldl (fun a p => max a (g' p)) a := by
  induction l generalizing a with
  | nil => rfl
  | cons x l ih =>
    simp only [List.foldl_cons]
    rw [h x (by simp)]
    exact ih _ (fun p hp => h p (by simp [hp]))

/-- The program goes behind, and within: what comes next of each place that does not return. -/
structure Goes (f : Nat → Ins) (n : Nat) : Prop where
  ok : ∀ i, i < n → ∀ p ∈ nextL (f i) i, i < p ∧ p < n
  go : ∀ i, i < n → retI (f i) = false → nextL (f i) i ≠ []
  pos : 1 ≤ n
theorem next_ret {q : Ins} {i : Nat} (h : retI q = true) : nextL q i = [] := by
  unfold nextL
  rw [if_pos (.inr (.inr (.inl h)))]
theorem may_goes {f : Nat → Ins} {n : Nat} (h : May f n) (ho : ∀ i, i < n → insO (f i)) : Goes f n := by
  have key : ∀ i, i < n → retI (f i) = false → nextL (f i) i ≠ [] ∧ ∀ p ∈ nextL (f i) i, i < p ∧ p < n := fun i hi hr => by
    refine next_in (ho i hi) (h.one i hi) hr ?_ (by have := h.hi; omega)
    rcases Nat.lt_or_ge (i + 1) n with h1 | h1
    · exact h1
    · obtain rfl : i = n - 1 := by omega
      rw [h.ret] at hr; cases hr
  refine ⟨fun i hi p hp => ?_, fun i hi hr => (key i hi hr).1, h.lo⟩
  cases hr : retI (f i) with
  | true => rw [next_ret hr] at hp; cases hp
  | false => exact (key i hi hr).2 p hp

theorem stp_fuel {f : Nat → Ins} {n : Nat} (h : Goes f n) : ∀ (k k' i : Nat), i < n → n - i ≤ k → n - i ≤ k' → stp f k i = stp f k' i := by
  intro k
  induction k with
  | zero => intro k' i hi hk; omega
  | succ k ih =>
    intro k' i hi hk hk'
    obtain ⟨m, rfl⟩ : ∃ m, k' = m + 1 := ⟨k' - 1, by omega⟩
    simp only [stp]
    refine foldl_max_congr _ _ _ _ fun p hp => ?_
    obtain ⟨h1, h2⟩ := h.ok i hi p hp
    rw [ih m p h2 (by omega) (by omega)]
/-- The steps from a place. -/
def stepsI (f : Nat → Ins) (n i : Nat) : Nat := stp f (n - i) i
theorem steps_eq {f : Nat → Ins} {n i : Nat} (h : Goes f n) (hi : i < n) : stepsI f n i = (nextL (f i) i).foldl (fun a p => max a (1 + stepsI f n p)) 1 := by
  unfold stepsI
  obtain ⟨m, hm⟩ : ∃ m, n - i = m + 1 := ⟨n - i - 1, by omega⟩
  rw [hm]
  simp only [stp]
  refine foldl_max_congr _ _ _ _ fun p hp => ?_
  obtain ⟨h1, h2⟩ := h.ok i hi p hp
  rw [stp_fuel h m (n - p) p h2 (by omega) (by omega)]
theorem most_steps {f : Nat → Ins} {n : Nat} : mostI f n = stepsI f n 0 := by unfold mostI stepsI; rw [Nat.sub_zero]
theorem steps_pos {f : Nat → Ins} {n i : Nat} (h : Goes f n) (hi : i < n) : 1 ≤ stepsI f n i := by
  rw [steps_eq h hi]
  exact (foldl_max_ge (fun p => 1 + stepsI f n p) _ _).1
theorem steps_next {f : Nat → Ins} {n i p : Nat} (h : Goes f n) (hi : i < n) (hp : p ∈ nextL (f i) i) : stepsI f n p + 1 ≤ stepsI f n i := by
  have := (foldl_max_ge (fun p => 1 + stepsI f n p) (nextL (f i) i) 1).2 p hp
  rw [steps_eq h hi]
  omega
theorem steps_end {f : Nat → Ins} {n i : Nat} (h : Goes f n) (hi : i < n) (he : nextL (f i) i = []) : stepsI f n i = 1 := by
  rw [steps_eq h hi, he]
  rfl

theorem met_mono {f : Nat → Ins} {k m p : Nat} (h : metL f k p = true) (hk : k ≤ m) : metL f m p = true := by
  induction m with
  | zero => obtain rfl : k = 0 := by omega
            exact h
  | succ m ih =>
    rcases Nat.lt_or_ge k (m + 1) with h1 | h1
    · simp only [metL, ih (by omega), Bool.true_or]
    · obtain rfl : k = m + 1 := by omega
      exact h
theorem met_next {f : Nat → Ins} {n i p : Nat} (h : Goes f n) (hi : i < n) (hm : metL f i i = true) (hp : p ∈ nextL (f i) i) : metL f p p = true := by
  obtain ⟨h1, _⟩ := h.ok i hi p hp
  refine met_mono (k := i + 1) ?_ (by omega)
  simp only [metL, hm, Bool.true_and]
  simp [hp]
theorem met_zero (f : Nat → Ins) : metL f 0 0 = true := by simp [metL]
/-- How many are reached from a place on. -/
def cntI (f : Nat → Ins) (n i : Nat) : Nat := ((List.range n).filter fun j => decide (i ≤ j) && metL f j j).length
theorem cnt_next {f : Nat → Ins} {n i p : Nat} (hi : i < n) (hm : metL f i i = true) (hp : i < p) : cntI f n p + 1 ≤ cntI f n i := by
  unfold cntI
  have e : ∀ m, i < m → ((List.range m).filter fun j => decide (p ≤ j) && metL f j j).length + 1 ≤ ((List.range m).filter fun j => decide (i ≤ j) && metL f j j).length := by
    intro m hm'
    induction m with
    | zero => omega
    | succ m ih =>
      rw [List.range_succ, List.filter_append, List.filter_append, List.length_append, List.length_append]
      rcases Nat.lt_or_ge i m with h1 | h1
      · have := ih h1
        have h2 : ([m].filter fun j => decide (p ≤ j) && metL f j j).length ≤ ([m].filter fun j => decide (i ≤ j) && metL f j j).length := by
          simp only [List.filter_cons, List.filter_nil]
          by_cases hpm : p ≤ m
          · simp [hpm, show i ≤ m by omega]
          · simp [hpm]
        omega
      · obtain rfl : i = m := by omega
        have h0 : ((List.range i).filter fun j => decide (p ≤ j) && metL f j j) = [] := by
          rw [List.filter_eq_nil_iff]
          intro j hj
          have : j < i := by simpa using hj
          simp; omega
        have h1 : ([i].filter fun j => decide (p ≤ j) && metL f j j).length = 0 := by simp [show ¬ p ≤ i by omega]
        have h2 : ([i].filter fun j => decide (i ≤ j) && metL f j j).length = 1 := by simp [hm]
        rw [h0, h1, h2]
        simp
  exact e n hi
theorem steps_cnt {f : Nat → Ins} {n : Nat} (h : Goes f n) : ∀ (d i : Nat), n - i ≤ d → i < n → metL f i i = true → stepsI f n i ≤ cntI f n i := by
  intro d
  induction d with
  | zero => intro i hd hi; omega
  | succ d ih =>
    intro i hd hi hm
    rw [steps_eq h hi]
    have hc : 1 ≤ cntI f n i := by have := cnt_next (p := n) hi hm hi; omega
    refine foldl_max_le _ _ _ _ hc fun p hp => ?_
    obtain ⟨h1, h2⟩ := h.ok i hi p hp
    have h3 := ih p (by omega) h2 (met_next h hi hm hp)
    have h4 := cnt_next hi hm h1
    omega
theorem cnt_reach (f : Nat → Ins) (n : Nat) : cntI f n 0 = (reachI f n).length := by simp [cntI, reachI]
theorem most_reach {f : Nat → Ins} {n : Nat} (h : Goes f n) : 1 ≤ mostI f n ∧ mostI f n ≤ (reachI f n).length ∧ (reachI f n).length ≤ n := by
  have h0 := h.pos
  rw [most_steps]
  refine ⟨steps_pos h (by omega), ?_, ?_⟩
  · rw [← cnt_reach]
    exact steps_cnt h n 0 (by omega) (by omega) (met_zero f)
  · have := List.length_filter_le (fun i => metL f i i) (List.range n)
    simpa [reachI] using this
theorem reach_mem {f : Nat → Ins} {n p : Nat} (hp : p < n) (hm : metL f p p = true) : p ∈ reachI f n := by simp [reachI, hp, hm]
theorem reach_head {f : Nat → Ins} {n : Nat} (h : 1 ≤ n) : ∃ t, reachI f n = 0 :: t := by
  obtain ⟨m, rfl⟩ : ∃ m, n = m + 1 := ⟨n - 1, by omega⟩
  unfold reachI
  rw [List.range_succ_eq_map, List.filter_cons, met_zero]
  exact ⟨_, if_pos rfl⟩

/-- One ahead, the steps are one more. -/
theorem next_shift (q : Ins) (i : Nat) (hi : i + 1 ≤ 255) : nextL q (i + 1) = (nextL q i).map (· + 1) := by
  unfold nextL
  have e : (255 < i + 1 ∨ formOf q.1 = -1 ∨ retI q = true ∨ formOf q.1 = 4 ∧ 255 < q.2.2.2) ↔ (255 < i ∨ formOf q.1 = -1 ∨ retI q = true ∨ formOf q.1 = 4 ∧ 255 < q.2.2.2) := by
    constructor <;> rintro (h | h)
    · omega
    · exact .inr h
    · omega
    · exact .inr h
  by_cases hc : (255 < i ∨ formOf q.1 = -1 ∨ retI q = true ∨ formOf q.1 = 4 ∧ 255 < q.2.2.2)
  · rw [if_pos (e.2 hc), if_pos hc]; rfl
  · rw [if_neg (fun h => hc (e.1 h)), if_neg hc]
    split
    · simp; omega
    · split
      · split
        · simp; omega
        · split
          · simp; omega
          · simp; omega
      · simp
theorem stp_ahead (x : Ins) {f : Nat → Ins} {n : Nat} (hn : n ≤ 64) (h : Goes f n) : ∀ (k i : Nat), i < n → stp (ahead x f) k (i + 1) = stp f k i := by
  intro k
  induction k with
  | zero => intro i _; rfl
  | succ k ih =>
    intro i hi
    simp only [stp]
    rw [show (ahead x f) (i + 1) = f i from rfl, next_shift (f i) i (by omega), List.foldl_map]
    refine foldl_max_congr (fun p => 1 + stp (ahead x f) k (p + 1)) (fun p => 1 + stp f k p) _ _ fun p hp => ?_
    rw [ih p (h.ok i hi p hp).2]
theorem most_longer {f : Nat → Ins} {n : Nat} (hn : n ≤ 64) (h : Goes f n) (k : Int) : mostI (ahead (0, 0, 0, k) f) (n + 1) = mostI f n + 1 := by
  have hx : nextL (ahead (0, 0, 0, k) f 0) 0 = [1] := by
    unfold nextL ahead
    simp only [form_0]
    simp [retI]
  have hp := steps_pos h h.pos
  rw [← most_steps] at hp
  unfold mostI at hp ⊢
  simp only [stp]
  rw [hx]
  simp only [List.foldl_cons, List.foldl_nil]
  rw [stp_ahead _ hn h n 0 h.pos]
  omega
end Go.Proofs.YtpeofpilfpjjpaaGreatDoor

/-
  The table of codes, names and forms: plain lemmas on its rows.
-/
namespace Go.Proofs.YtpeofpilfpjjpaaGreatDoor
open Go.RowKit

theorem rowN_eq (s : ByteArray) : rowN s = (List.range 41).find? fun i => (kAt i).2.1 == s.data.toList := by
  unfold rowN kN
  simp only [ByteArray.toList_mk, ByteArray.toList_eq s]
theorem rowC_some {c : Int} {i : Nat} (h : rowC c = some i) : i < 41 ∧ kC i = c := by
  have h1 := List.mem_of_find?_eq_some h
  have h2 := List.find?_some h
  simp at h1 h2
  exact ⟨h1, h2⟩
/-- The table's names lead back to its rows. -/
theorem rowN_kN {i : Nat} (hi : i < 41) : rowN (kN i) = some i := by
  rw [rowN_eq]
  have hall : ((List.range 41).all fun i => ((List.range 41).find? fun j => (kAt j).2.1 == (kAt i).2.1) == some i) = true := by decide
  have := List.all_eq_true.1 hall i (List.mem_range.2 hi)
  simpa [kN] using this
theorem rowN_empty : rowN ⟨#[]⟩ = none := by
  rw [rowN_eq]
  rfl
theorem kF_nonneg {i : Nat} (hi : i < 41) : 0 ≤ kF i := by
  have hall : ((List.range 41).all fun i => decide (0 ≤ kF i)) = true := by decide
  simpa using List.all_eq_true.1 hall i (List.mem_range.2 hi)
end Go.Proofs.YtpeofpilfpjjpaaGreatDoor
