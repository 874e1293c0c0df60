/-
  What is reached, and how many steps there are: plain lemmas over rows of instructions.
-/
import Derived.Test.YtceeinljakcdkaaDoorChkM
namespace Go.Proofs.YtceeinljakcdkaaDoor
open Go.RowKit

/-- The greatest number of steps from a place, so many places ahead at most. -/
def stp (f : Nat → Ins) : Nat → Nat → Nat
  | 0, _ => 0
  | k + 1, i => (nextL (f i) i).foldl (fun a p => max a (1 + stp f k p)) 1
def mostI (f : Nat → Ins) (n : Nat) : Nat := stp f n 0

theorem foldl_max_ge (g : Nat → Nat) (l : List Nat) (a : Nat) : a ≤ l.foldl (fun a p => max a (g p)) a ∧ ∀ p ∈ l, g p ≤ l.foldl (fun a p => max a (g p)) a := by
  induction l generalizing a with
  | nil => exact ⟨Nat.le_refl _, fun p hp => by cases hp⟩
  | cons x l ih =>
    obtain ⟨h1, h2⟩ := ih (max a (g x))
    refine ⟨by simp only [List.foldl_cons]; omega, fun p hp => ?_⟩
    simp only [List.foldl_cons]
    rcases List.mem_cons.1 hp with rfl | hp
    · omega
    · exact h2 p hp
theorem foldl_max_le (g : Nat → Nat) (l : List Nat) (a b : Nat) (ha : a ≤ b) (h : ∀ p ∈ l, g p ≤ b) : l.foldl (fun a p => max a (g p)) a ≤ b := by
  induction l generalizing a with
  | nil => exact ha
  | cons x l ih =>
    simp only [List.foldl_cons]
    exact ih _ (by have := h x (by simp); omega) (fun p hp => h p (by simp [hp]))
theorem foldl_max_congr (g g' : Nat → Nat) (l : List Nat) (a : Nat) (h : ∀ p ∈ l, g p = g' p) : l.foldl (fun a p => max a (g p)) a = l.foldl (fun a p => max a (g' p)) a := by
  induction l generalizing a with
  | nil => rfl
  | cons x l ih =>
    simp only [List.foldl_cons]
    rw [h x (by simp)]
    exact ih _ (fun p hp => h p (by simp [hp]))

/-- The program goes behind, and within: what comes next of each place that does not return. -/
structure Goes (f : Nat → Ins) (n : Nat) : Prop where
  ok : ∀ i, i < n → ∀ p ∈ nextL (f i) i, i < p ∧ p < n
  go : ∀ i, i < n → retI (f i) = false → nextL (f i) i ≠ []
  pos : 1 ≤ n
theorem next_ret {q : Ins} {i : Nat} (h : retI q = true) : nextL q i = [] := by
  unfold nextL
  rw [if_pos (.inr (.inr (.inl h)))]
theorem may_goes {f : Nat → Ins} {n : Nat} (h : May f n) (ho : ∀ i, i < n → insO (f i)) : Goes f n := by
  have key : ∀ i, i < n → retI (f i) = false → nextL (f i) i ≠ [] ∧ ∀ p ∈ nextL (f i) i, i < p ∧ p < n := fun i hi hr => by
    refine next_in (ho i hi) (h.one i hi) hr ?_ (by have := h.hi; omega)
    rcases Nat.lt_or_ge (i + 1) n with h1 | h1
    · exact h1
    · obtain rfl : i = n - 1 := by omega
      rw [h.ret] at hr; cases hr
  refine ⟨fun i hi p hp => ?_, fun i hi hr => (key i hi hr).1, h.lo⟩
  cases hr : retI (f i) with
  | true => rw [next_ret hr] at hp; cases hp
  | false => exact (key i hi hr).2 p hp

theorem stp_fuel {f : Nat → Ins} {n : Nat} (h : Goes f n) : ∀ (k k' i : Nat), i < n → n - i ≤ k → n - i ≤ k' → stp f k i = stp f k' i := by
  intro k
  induction k with
  | zero => intro k' i hi hk; omega
  | succ k ih =>
    intro k' i hi hk hk'
    obtain ⟨m, rfl⟩ : ∃ m, k' = m + 1 := ⟨k' - 1, by omega⟩
    simp only [stp]
    refine foldl_max_congr _ _ _ _ fun p hp => ?_
    obtain ⟨h1, h2⟩ := h.ok i hi p hp
    rw [ih m p h2 (by omega) (by omega)]
/-- The steps from a place. -/
def stepsI (f : Nat → Ins) (n i : Nat) : Nat := stp f (n - i) i
theorem steps_eq {f : Nat → Ins} {n i : Nat} (h : Goes f n) (hi : i < n) : stepsI f n i = (nextL (f i) i).foldl (fun a p => max a (1 + stepsI f n p)) 1 := by
  unfold stepsI
  obtain ⟨m, hm⟩ : ∃ m, n - i = m + 1 := ⟨n - i - 1, by omega⟩
  rw [hm]
  simp only [stp]
  refine foldl_max_congr _ _ _ _ fun p hp => ?_
  obtain ⟨h1, h2⟩ := h.ok i hi p hp
  rw [stp_fuel h m (n - p) p h2 (by omega) (by omega)]
theorem most_steps {f : Nat → Ins} {n : Nat} : mostI f n = stepsI f n 0 := by unfold mostI stepsI; rw [Nat.sub_zero]
theorem steps_pos {f : Nat → Ins} {n i : Nat} (h : Goes f n) (hi : i < n) : 1 ≤ stepsI f n i := by
  rw [steps_eq h hi]
  exact (foldl_max_ge (fun p => 1 + stepsI f n p) _ _).1
theorem steps_next {f : Nat → Ins} {n i p : Nat} (h : Goes f n) (hi : i < n) (hp : p ∈ nextL (f i) i) : stepsI f n p + 1 ≤ stepsI f n i := by
  have := (foldl_max_ge (fun p => 1 + stepsI f n p) (nextL (f i) i) 1).2 p hp
  rw [steps_eq h hi]
  omega
theorem steps_end {f : Nat → Ins} {n i : Nat} (h : Goes f n) (hi : i < n) (he : nextL (f i) i = []) : stepsI f n i = 1 := by
  rw [steps_eq h hi, he]
  rfl

theorem met_mono {f : Nat → Ins} {k m p : Nat} (h : metL f k p = true) (hk : k ≤ m) : metL f m p = true := by
  induction m with
  | zero => obtain rfl : k = 0 := by omega
            exact h
  | succ m ih =>
    rcases Nat.lt_or_ge k (m + 1) with h1 | h1
    · simp only [metL, ih (by omega), Bool.true_or]
    · obtain rfl : k = m + 1 := by omega
      exact h
theorem met_next {f : Nat → Ins} {n i p : Nat} (h : Goes f n) (hi : i < n) (hm : metL f i i = true) (hp : p ∈ nextL (f i) i) : metL f p p = true := by
  obtain ⟨h1, _⟩ := h.ok i hi p hp
  refine met_mono (k := i + 1) ?_ (by omega)
  simp only [metL, hm, Bool.true_and]
  simp [hp]
theorem met_zero (f : Nat → Ins) : metL f 0 0 = true := by simp [metL]
/-- How many are reached from a place on. -/
def cntI (f : Nat → Ins) (n i : Nat) : Nat := ((List.range n).filter fun j => decide (i ≤ j) && metL f j j).length
theorem cnt_next {f : Nat → Ins} {n i p : Nat} (hi : i < n) (hm : metL f i i = true) (hp : i < p) : cntI f n p + 1 ≤ cntI f n i := by
  unfold cntI
  have e : ∀ m, i < m → ((List.range m).filter fun j => decide (p ≤ j) && metL f j j).length + 1 ≤ ((List.range m).filter fun j => decide (i ≤ j) && metL f j j).length := by
    intro m hm'
    induction m with
    | zero => omega
    | succ m ih =>
      rw [List.range_succ, List.filter_append, List.filter_append, List.length_append, List.length_append]
      rcases Nat.lt_or_ge i m with h1 | h1
      · have := ih h1
        have h2 : ([m].filter fun j => decide (p ≤ j) && metL f j j).length ≤ ([m].filter fun j => decide (i ≤ j) && metL f j j).length := by
          simp only [List.filter_cons, List.filter_nil]
          by_cases hpm : p ≤ m
          · simp [hpm, show i ≤ m by omega]
          · simp [hpm]
        omega
      · obtain rfl : i = m := by omega
        have h0 : ((List.range i).filter fun j => decide (p ≤ j) && metL f j j) = [] := by
          rw [List.filter_eq_nil_iff]
          intro j hj
          have : j < i := by simpa using hj
          simp; omega
        have h1 : ([i].filter fun j => decide (p ≤ j) && metL f j j).length = 0 := by simp [show ¬ p ≤ i by omega]
        have h2 : ([i].filter fun j => decide (i ≤ j) && metL f j j).length = 1 := by simp [hm]
        rw [h0, h1, h2]
        simp
  exact e n hi
theorem steps_cnt {f : Nat → Ins} {n : Nat} (h : Goes f n) : ∀ (d i : Nat), n - i ≤ d → i < n → metL f i i = true → stepsI f n i ≤ cntI f n i := by
  intro d
  induction d with
  | zero => intro i hd hi; omega
  | succ d ih =>
    intro i hd hi hm
    rw [steps_eq h hi]
    have hc : 1 ≤ cntI f n i := by have := cnt_next (p := n) hi hm hi; omega
    refine foldl_max_le _ _ _ _ hc fun p hp => ?_
    obtain ⟨h1, h2⟩ := h.ok i hi p hp
    have h3 := ih p (by omega) h2 (met_next h hi hm hp)
    have h4 := cnt_next hi hm h1
    omega
theorem cnt_reach (f : Nat → Ins) (n : Nat) : cntI f n 0 = (reachI f n).length := by simp [cntI, reachI]
theorem most_reach {f : Nat → Ins} {n : Nat} (h : Goes f n) : 1 ≤ mostI f n ∧ mostI f n ≤ (reachI f n).length ∧ (reachI f n).length ≤ n := by
  have h0 := h.pos
  rw [most_steps]
  refine ⟨steps_pos h (by omega), ?_, ?_⟩
  · rw [← cnt_reach]
    exact steps_cnt h n 0 (by omega) (by omega) (met_zero f)
  · have := List.length_filter_le (fun i => metL f i i) (List.range n)
    simpa [reachI] using this
theorem reach_mem {f : Nat → Ins} {n p : Nat} (hp : p < n) (hm : metL f p p = true) : p ∈ reachI f n := by simp [reachI, hp, hm]
theorem reach_head {f : Nat → Ins} {n : Nat} (h : 1 ≤ n) : ∃ t, reachI f n = 0 :: t := by
  obtain ⟨m, rfl⟩ : ∃ m, n = m + 1 := ⟨n - 1, by omega⟩
  unfold reachI
  rw [List.range_succ_eq_map, List.filter_cons, met_zero]
  exact ⟨_, if_pos rfl⟩

/-- One ahead, the steps are one more. -/
theorem next_shift (q : Ins) (i : Nat) (hi : i + 1 ≤ 255) : nextL q (i + 1) = (nextL q i).map (· + 1) := by
  unfold nextL
  have e : (255 < i + 1 ∨ formOf q.1 = -1 ∨ retI q = true ∨ formOf q.1 = 4 ∧ 255 < q.2.2.2) ↔ (255 < i ∨ formOf q.1 = -1 ∨ retI q = true ∨ formOf q.1 = 4 ∧ 255 < q.2.2.2) := by
    constructor <;> rintro (h | h)
    · omega
    · exact .inr h
    · omega
    · exact .inr h
  by_cases hc : (255 < i ∨ formOf q.1 = -1 ∨ retI q = true ∨ formOf q.1 = 4 ∧ 255 < q.2.2.2)
  · rw [if_pos (e.2 hc), if_pos hc]; rfl
  · rw [if_neg (fun h => hc (e.1 h)), if_neg hc]
    split
    · simp; omega
    · split
      · split
        · simp; omega
        · split
          · simp; omega
          · simp; omega
      · simp
theorem stp_ahead (x : Ins) {f : Nat → Ins} {n : Nat} (hn : n ≤ 64) (h : Goes f n) : ∀ (k i : Nat), i < n → stp (ahead x f) k (i + 1) = stp f k i := by
  intro k
  induction k with
  | zero => intro i _; rfl
  | succ k ih =>
    intro i hi
    simp only [stp]
    rw [show (ahead x f) (i + 1) = f i from rfl, next_shift (f i) i (by omega), List.foldl_map]
    refine foldl_max_congr (fun p => 1 + stp (ahead x f) k (p + 1)) (fun p => 1 + stp f k p) _ _ fun p hp => ?_
    rw [ih p (h.ok i hi p hp).2]
theorem most_longer {f : Nat → Ins} {n : Nat} (hn : n ≤ 64) (h : Goes f n) (k : Int) : mostI (ahead (0, 0, 0, k) f) (n + 1) = mostI f n + 1 := by
  have hx : nextL (ahead (0, 0, 0, k) f 0) 0 = [1] := by
    unfold nextL ahead
    simp only [form_0]
    simp [retI]
  have hp := steps_pos h h.pos
  rw [← most_steps] at hp
  unfold mostI at hp ⊢
  simp only [stp]
  rw [hx]
  simp only [List.foldl_cons, List.foldl_nil]
  rw [stp_ahead _ hn h n 0 h.pos]
  omega
end Go.Proofs.YtceeinljakcdkaaDoor
