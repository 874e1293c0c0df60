/-
  The steps up to a place, going forward: plain lemmas over rows of instructions.
-/
import Derived.Test.YtpeofpilfpjjpaaGreatDoorHE
namespace Go.Proofs.YtpeofpilfpjjpaaGreatDoor
open Go.RowKit

/-- One more way to a place: the greater number. -/
def updI (m : Nat → Nat) (p v : Nat) : Nat → Nat := fun x => if x = p then max (m p) v else m x
/-- The greatest number of steps up to each place, by what comes behind the first k of them; nought: it is not met. -/
def upI (f : Nat → Ins) : Nat → Nat → Nat
  | 0 => fun p => if p = 0 then 1 else 0
  | k + 1 => if upI f k k = 0 then upI f k else (nextL (f k) k).foldl (fun m p => updI m p (upI f k k + 1)) (upI f k)
/-- The places that are reached, each with the greatest number of steps up to it. -/
def metsI (f : Nat → Ins) (n : Nat) : List (Nat × Nat) := ((List.range n).filter fun i => upI f i i != 0).map fun i => (i, upI f i i)

theorem updI_eq (m : Nat → Nat) (p v : Nat) : updI m p v p = max (m p) v := by unfold updI; rw [if_pos rfl]
theorem updI_ne {m : Nat → Nat} {p v x : Nat} (h : x ≠ p) : updI m p v x = m x := by unfold updI; rw [if_neg h]
theorem foldl_upd (v : Nat) (l : List Nat) (m : Nat → Nat) (x : Nat) : (l.foldl (fun m p => updI m p v) m) x = if x ∈ l then max (m x) v else m x := by
  induction l generalizing m with
  | nil => simp
  | cons p l ih =>
    rw [List.foldl_cons, ih]
    by_cases hx : x = p
    · subst hx
      rw [updI_eq]
      by_cases h : x ∈ l
      · simp [h]
      · simp [h]
    · rw [updI_ne hx]
      by_cases h : x ∈ l
      · simp [h]
      · simp [h, hx]
theorem upI_succ (f : Nat → Ins) (k p : Nat) : upI f (k + 1) p = if upI f k k ≠ 0 ∧ p ∈ nextL (f k) k then max (upI f k p) (upI f k k + 1) else upI f k p := by
  simp only [upI]
  by_cases h : upI f k k = 0
  · rw [if_pos h, if_neg (by simp [h])]
  · rw [if_neg h, foldl_upd]
    by_cases h2 : p ∈ nextL (f k) k
    · simp [h, h2]
    · simp [h2]
/-- Met, if there are steps. -/
theorem up_met (f : Nat → Ins) (k p : Nat) : upI f k p ≠ 0 ↔ metL f k p = true := by
  induction k generalizing p with
  | zero =>
    simp only [upI, metL]
    by_cases h : p = 0
    · simp [h]
    · simp [h]
  | succ k ih =>
    rw [upI_succ]
    simp only [metL, Bool.or_eq_true, Bool.and_eq_true, decide_eq_true_eq]
    rw [← ih p, ← ih k]
    by_cases h : upI f k k ≠ 0 ∧ p ∈ nextL (f k) k
    · rw [if_pos h]
      exact ⟨fun _ => .inr h, fun _ => by omega⟩
    · rw [if_neg h]
      exact ⟨fun h1 => .inl h1, fun h1 => h1.elim id fun h2 => absurd h2 h⟩
theorem mets_fst (f : Nat → Ins) (n : Nat) : (metsI f n).map (·.1) = reachI f n := by
  unfold metsI reachI
  rw [List.map_map]
  have : ((fun x : Nat × Nat => x.1) ∘ fun i => (i, upI f i i)) = fun i => i := rfl
  rw [this, List.map_id']
  refine List.filter_congr fun i _ => ?_
  rw [Bool.eq_iff_iff]
  simp only [bne_iff_ne]
  exact up_met f i i
theorem mets_succ (f : Nat → Ins) (n : Nat) : metsI f (n + 1) = if upI f n n = 0 then metsI f n else metsI f n ++ [(n, upI f n n)] := by
  unfold metsI
  rw [List.range_succ, List.filter_append, List.map_append]
  by_cases h : upI f n n = 0
  · simp [h]
  · simp [h]
theorem mets_len (f : Nat → Ins) (n : Nat) : (metsI f n).length ≤ n := by
  unfold metsI
  rw [List.length_map]
  have := List.length_filter_le (fun i => upI f i i != 0) (List.range n)
  simpa using this
theorem up_mono {f : Nat → Ins} {k m p : Nat} (h : k ≤ m) : upI f k p ≤ upI f m p := by
  induction m with
  | zero => obtain rfl : k = 0 := by omega
            exact Nat.le_refl _
  | succ m ih =>
    rcases Nat.lt_or_ge k (m + 1) with h1 | h1
    · refine Nat.le_trans (ih (by omega)) ?_
      rw [upI_succ]
      split <;> omega
    · obtain rfl : k = m + 1 := by omega
      exact Nat.le_refl _
theorem up_le (f : Nat → Ins) (k p : Nat) : upI f k p ≤ k + 1 := by
  induction k generalizing p with
  | zero => simp only [upI]; split <;> omega
  | succ k ih =>
    rw [upI_succ]
    have h1 := ih p
    have h2 := ih k
    split <;> omega
theorem up_zero {f : Nat → Ins} {k : Nat} (h : upI f k k = 0) : upI f (k + 1) = upI f k := by simp only [upI]; rw [if_pos h]
theorem up_more {f : Nat → Ins} {k : Nat} (h : upI f k k ≠ 0) : upI f (k + 1) = (nextL (f k) k).foldl (fun m p => updI m p (upI f k k + 1)) (upI f k) := by simp only [upI]; rw [if_neg h]
/-- Behind a place that is met: at least one step more. -/
theorem up_nextK {f : Nat → Ins} {n i p : Nat} (h : Goes f n) (hi : i < n) (hm : upI f i i ≠ 0) (hp : p ∈ nextL (f i) i) : upI f i i + 1 ≤ upI f p p := by
  obtain ⟨h1, _⟩ := h.ok i hi p hp
  refine Nat.le_trans ?_ (up_mono (k := i + 1) h1)
  rw [upI_succ, if_pos ⟨hm, hp⟩]
  omega
/-- Up to a place and on from it: no more than from the first one. -/
theorem up_steps {f : Nat → Ins} {n : Nat} (h : Goes f n) : ∀ k, k ≤ n → ∀ p, p < n → upI f k p ≠ 0 → upI f k p + stepsI f n p ≤ stepsI f n 0 + 1 := by
  intro k
  induction k with
  | zero =>
    intro _ p _ hu
    by_cases h0 : p = 0
    · subst h0; simp [upI]; omega
    · simp [upI, h0] at hu
  | succ k ih =>
    intro hk p hp hu
    rw [upI_succ] at hu ⊢
    by_cases hc : upI f k k ≠ 0 ∧ p ∈ nextL (f k) k
    · rw [if_pos hc]
      have h1 := ih (by omega) k (by omega) hc.1
      have h2 := steps_next h (by omega) hc.2
      by_cases h3 : upI f k p = 0
      · omega
      · have h4 := ih (by omega) p hp h3
        omega
    · rw [if_neg hc] at hu ⊢
      exact ih (by omega) p hp hu
theorem foldl_max_at (g : Nat → Nat) (l : List Nat) (a : Nat) : l.foldl (fun a p => max a (g p)) a = a ∨ ∃ p ∈ l, l.foldl (fun a p => max a (g p)) a = g p := by
  induction l generalizing a with
  | nil => exact .inl rfl
  | cons x l ih =>
    rw [List.foldl_cons]
    rcases ih (max a (g x)) with h | ⟨p, hp, h⟩
    · rw [h]
      rcases Nat.le_total a (g x) with h1 | h1
      · exact .inr ⟨x, by simp, by omega⟩
      · exact .inl (by omega)
    · exact .inr ⟨p, by simp [hp], h⟩
/-- Some place is met with as many steps as there are. -/
theorem up_best {f : Nat → Ins} {n : Nat} (h : Goes f n) : ∀ (d i : Nat), n - i ≤ d → i < n → upI f i i ≠ 0 → ∃ j, j < n ∧ upI f j j ≠ 0 ∧ upI f i i + stepsI f n i ≤ upI f j j + 1 := by
  intro d
  induction d with
  | zero => intro i hd hi; omega
  | succ d ih =>
    intro i hd hi hu
    have hs := steps_eq h hi
    rcases foldl_max_at (fun p => 1 + stepsI f n p) (nextL (f i) i) 1 with h1 | ⟨p, hp, h1⟩
    · exact ⟨i, hi, hu, by omega⟩
    · obtain ⟨h2, h3⟩ := h.ok i hi p hp
      have h4 := up_nextK h hi hu hp
      obtain ⟨j, hj, hju, h5⟩ := ih p (by omega) h3 (by omega)
      exact ⟨j, hj, hju, by omega⟩
theorem foldl_max_list (l : List Nat) (a b : Nat) (ha : a ≤ b) (h : ∀ x ∈ l, x ≤ b) : l.foldl max a ≤ b := by
  induction l generalizing a with
  | nil => exact ha
  | cons x l ih => exact ih _ (by have := h x (by simp); omega) fun y hy => h y (by simp [hy])
theorem foldl_max_mem (l : List Nat) (a : Nat) : a ≤ l.foldl max a ∧ ∀ x ∈ l, x ≤ l.foldl max a := by
  induction l generalizing a with
  | nil => exact ⟨Nat.le_refl _, fun x hx => by cases hx⟩
  | cons y l ih =>
    obtain ⟨h1, h2⟩ := ih (max a y)
    refine ⟨by rw [List.foldl_cons]; omega, fun x hx => ?_⟩
    rw [List.foldl_cons]
    rcases List.mem_cons.1 hx with rfl | hx
    · omega
    · exact h2 x hx
/-- The greatest of the numbers of steps up to what is reached is how many there are at most. -/
theorem mets_most {f : Nat → Ins} {n : Nat} (h : Goes f n) : ((metsI f n).map (·.2)).foldl max 0 = mostI f n := by
  have hp := h.pos
  rw [most_steps]
  apply Nat.le_antisymm
  · refine foldl_max_list _ _ _ (Nat.zero_le _) fun x hx => ?_
    simp only [metsI, List.map_map, List.mem_map, List.mem_filter, List.mem_range, Function.comp] at hx
    obtain ⟨i, ⟨hi, hu⟩, rfl⟩ := hx
    have hu' : upI f i i ≠ 0 := by simpa using hu
    have := up_steps h i (by omega) i hi hu'
    have := steps_pos h hi
    omega
  · obtain ⟨j, hj, hju, h5⟩ := up_best h n 0 (by omega) (by omega) (by simp [upI])
    have h1 : upI f j j ∈ (metsI f n).map (·.2) := by
      simp only [metsI, List.map_map, List.mem_map, List.mem_filter, List.mem_range, Function.comp]
      exact ⟨j, ⟨hj, by simpa using hju⟩, rfl⟩
    have h2 := (foldl_max_mem ((metsI f n).map (·.2)) 0).2 _ h1
    have h3 : upI f 0 0 = 1 := by simp [upI]
    omega
end Go.Proofs.YtpeofpilfpjjpaaGreatDoor
