/-
  ChkP, CkN: in one file.
-/
import Derived.Test.YtepkhkfdokinmaaDoorGB
import Derived.Test.YtepkhkfdokinmaaDoorGD
/-
  The steps up to a place, going forward: plain lemmas over rows of instructions.
-/
namespace Go.Proofs.YtepkhkfdokinmaaDoor
open Go.RowKit

/-- One more way to a place: the greater number. -/
def updI (m : Nat → Nat) (p v : Nat) : Nat → Nat := fun x => if x = p then max (m p) v else m x
/-- The greatest number of steps up to each place, by what comes behind the first k of them; nought: it is not met. -/
def upI (f : Nat → Ins) : Nat → Nat → Nat
  | 0 => fun p => if p = 0 then 1 else 0
  | k + 1 => if upI f k k = 0 then upI f k else (nextL (f k) k).foldl (fun m p => updI m p (upI f k k + 1)) (upI f k)
/-- The places that are reached, each with the greatest number of steps up to it. -/
def metsI (f : Nat → Ins) (n : Nat) : List (Nat × Nat) := ((List.range n).filter fun i => upI f i i != 0).map fun i => (i, upI f i i)

theorem updI_eq (m : Nat → Nat) (p v : Nat) : updI m p v p = max (m p) v := by unfold updI; rw [if_pos rfl]
theorem updI_ne {m : Nat → Nat} {p v x : Nat} (h : x ≠ p) : updI m p v x = m x := by unfold updI; rw [if_neg h]
theorem foldl_upd (v : Nat) (l : List Nat) (m : Nat → Nat) (x : Nat) : (l.foldl (fun m p => updI m p v) m) x = if x ∈ l then max (m x) v else m x := by
  induction l generalizing m with
  | nil => simp
  | cons p l ih =>
    rw [List.foldl_cons, ih]
    by_cases hx : x = p
    · subst hx
      rw [updI_eq]
      by_cases h : x ∈ l
      · simp [h]
      · simp [h]
    · rw [updI_ne hx]
      by_cases h : x ∈ l
      · simp [h]
      · simp [h, hx]
theorem upI_succ (f : Nat → Ins) (k p : Nat) : upI f (k + 1) p = if upI f k k ≠ 0 ∧ p ∈ nextL (f k) k then max (upI f k p) (upI f k k + 1) else upI f k p := by
  simp only [upI]
  by_cases h : upI f k k = 0
  · rw [if_pos h, if_neg (by simp [h])]
  · rw [if_neg h, foldl_upd]
    by_cases h2 : p ∈ nextL (f k) k
    · simp [h, h2]
    · simp [h2]
/-- Met, if there are steps. -/
theorem up_met (f : Nat → Ins) (k p : Nat) : upI f k p ≠ 0 ↔ metL f k p = true := by
  induction k generalizing p with
  | zero =>
    simp only [upI, metL]
    by_cases h : p = 0
    · simp [h]
    · simp [h]
  | succ k ih =>
    rw [upI_succ]
    simp only [metL, Bool.or_eq_true, Bool.and_eq_true, decide_eq_true_eq]
    rw [← ih p, ← ih k]
    by_cases h : upI f k k ≠ 0 ∧ p ∈ nextL (f k) k
    · rw [if_pos h]
      exact ⟨fun _ => .inr h, fun _ => by omega⟩
    · rw [if_neg h]
      exact ⟨fun h1 => .inl h1, fun h1 => h1.elim id fun h2 => absurd h2 h⟩
theorem mets_fst (f : Nat → Ins) (n : Nat) : (metsI f n).map (·.1) = reachI f n := by
  unfold metsI reachI
  rw [List.map_map]
  have : ((fun x : Nat × Nat => x.1) ∘ fun i => (i, upI f i i)) = fun i => i := rfl
  rw [this, List.map_id']
  refine List.filter_congr fun i _ => ?_
  rw [Bool.eq_iff_iff]
  simp only [bne_iff_ne]
  exact up_met f i i
theorem mets_succ (f : Nat → Ins) (n : Nat) : metsI f (n + 1) = if upI f n n = 0 then metsI f n else metsI f n ++ [(n, upI f n n)] := by
  unfold metsI
  rw [List.range_succ, List.filter_append, List.map_append]
  by_cases h : upI f n n = 0
  · simp [h]
  · simp [h]
theorem mets_len (f : Nat → Ins) (n : Nat) : (metsI f n).length ≤ n := by
  unfold metsI
  rw [List.length_map]
  have := List.length_filter_le (fun i => upI f i i != 0) (List.range n)
  simpa using this
theorem up_mono {f : Nat → Ins} {k m p : Nat} (h : k ≤ m) : upI f k p ≤ upI f m p := by
  induction m with
  | zero => obtain rfl : k = 0 := by omega
            exact Nat.le_refl _
  | succ m ih =>
    rcases Nat.lt_or_ge k (m + 1) with h1 | h1
    · refine Nat.le_trans (ih (by omega)) ?_
      rw [upI_succ]
      split <;> omega
    · obtain rfl : k = m + 1 := by omega
      exact Nat.le_refl _
theorem up_le (f : Nat → Ins) (k p : Nat) : upI f k p ≤ k + 1 := by
  induction k generalizing p with
  | zero => simp only [upI]; split <;> omega
  | succ k ih =>
    rw [upI_succ]
    have h1 := ih p
    have h2 := ih k
    split <;> omega
theorem up_zero {f : Nat → Ins} {k : Nat} (h : upI f k k = 0) : upI f (k + 1) = upI f k := by simp only [upI]; rw [if_pos h]
theorem up_more {f : Nat → Ins} {k : Nat} (h : upI f k k ≠ 0) : upI f (k + 1) = (nextL (f k) k).foldl (fun m p => updI m p (upI f k k + 1)) (upI f k) := by simp only [upI]; rw [if_neg h]
/-- Behind a place that is met: at least one step more. -/
theorem up_next {f : Nat → Ins} {n i p : Nat} (h : Goes f n) (hi : i < n) (hm : upI f i i ≠ 0) (hp : p ∈ nextL (f i) i) : upI f i i + 1 ≤ upI f p p := by
  obtain ⟨h1, _⟩ := h.ok i hi p hp
  refine Nat.le_trans ?_ (up_mono (k := i + 1) h1)
  rw [upI_succ, if_pos ⟨hm, hp⟩]
  omega
/-- Up to a place and on from it: no more than from the first one. -/
theorem up_steps {f : Nat → Ins} {n : Nat} (h : Goes f n) : ∀ k, k ≤ n → ∀ p, p < n → upI f k p ≠ 0 → upI f k p + stepsI f n p ≤ stepsI f n 0 + 1 := by
  intro k
  induction k with
  | zero =>
    intro _ p _ hu
    by_cases h0 : p = 0
    · subst h0; simp [upI]; omega
    · simp [upI, h0] at hu
  | succ k ih =>
    intro hk p hp hu
    rw [upI_succ] at hu ⊢
    by_cases hc : upI f k k ≠ 0 ∧ p ∈ nextL (f k) k
    · rw [if_pos hc]
      have h1 := ih (by omega) k (by omega) hc.1
      have h2 := steps_next h (by omega) hc.2
      by_cases h3 : upI f k p = 0
      · omega
      · have h4 := ih (by omega) p hp h3
        omega
    · rw [if_neg hc] at hu ⊢
      exact ih (by omega) p hp hu
theorem foldl_max_at (g : Nat → Nat) (l : List Nat) (a : Nat) : l.foldl (fun a p => max a (g p)) a = a ∨ ∃ p ∈ l, l.foldl (fun a p => max a (g p)) a = g p := by
  induction l generalizing a with
  | nil => exact .inl rfl
  | cons x l ih =>
    rw [List.foldl_cons]
    rcases ih (max a (g x)) with h | ⟨p, hp, h⟩
    · rw [h]
      rcases Nat.le_total a (g x) with h1 | h1
      · exact .inr ⟨x, by simp, by omega⟩
      · exact .inl (by omega)
    · exact .inr ⟨p, by simp [hp], h⟩
/-- Some place is met with as many steps as there are. -/
theorem up_best {f : Nat → Ins} {n : Nat} (h : Goes f n) : ∀ (d i : Nat), n - i ≤ d → i < n → upI f i i ≠ 0 → ∃ j, j < n ∧ upI f j j ≠ 0 ∧ upI f i i + stepsI f n i ≤ upI f j j + 1 := by
  intro d
  induction d with
  | zero => intro i hd hi; omega
  | succ d ih =>
    intro i hd hi hu
    have hs := steps_eq h hi
    rcases foldl_max_at (fun p => 1 + stepsI f n p) (nextL (f i) i) 1 with h1 | ⟨p, hp, h1⟩
    · exact ⟨i, hi, hu, by omega⟩
    · obtain ⟨h2, h3⟩ := h.ok i hi p hp
      have h4 := up_next h hi hu hp
      obtain ⟨j, hj, hju, h5⟩ := ih p (by omega) h3 (by omega)
      exact ⟨j, hj, hju, by omega⟩
theorem foldl_max_list (l : List Nat) (a b : Nat) (ha : a ≤ b) (h : ∀ x ∈ l, x ≤ b) : l.foldl max a ≤ b := by
  induction l generalizing a with
  | nil => exact ha
  | cons x l ih => exact ih _ (by have := h x (by simp); omega) fun y hy => h y (by simp [hy])
theorem foldl_max_mem (l : List Nat) (a : Nat) : a ≤ l.foldl max a ∧ ∀ x ∈ l, x ≤ l.foldl max a := by
  induction l generalizing a with
  | nil => exact ⟨Nat.le_refl _, fun x hx => by cases hx⟩
  | cons y l ih =>
    obtain ⟨h1, h2⟩ := ih (max a y)
    refine ⟨by rw [List.foldl_cons]; omega, fun x hx => ?_⟩
    rw [List.foldl_cons]
    rcases List.mem_cons.1 hx with rfl | hx
    · omega
    · exact h2 x hx
/-- The greatest of the numbers of steps up to what is reached is how many there are at most. -/
theorem mets_most {f : Nat → Ins} {n : Nat} (h : Goes f n) : ((metsI f n).map (·.2)).foldl max 0 = mostI f n := by
  have hp := h.pos
  rw [most_steps]
  apply Nat.le_antisymm
  · refine foldl_max_list _ _ _ (Nat.zero_le _) fun x hx => ?_
    simp only [metsI, List.map_map, List.mem_map, List.mem_filter, List.mem_range, Function.comp] at hx
    obtain ⟨i, ⟨hi, hu⟩, rfl⟩ := hx
    have hu' : upI f i i ≠ 0 := by simpa using hu
    have := up_steps h i (by omega) i hi hu'
    have := steps_pos h hi
    omega
  · obtain ⟨j, hj, hju, h5⟩ := up_best h n 0 (by omega) (by omega) (by simp [upI])
    have h1 : upI f j j ∈ (metsI f n).map (·.2) := by
      simp only [metsI, List.map_map, List.mem_map, List.mem_filter, List.mem_range, Function.comp]
      exact ⟨j, ⟨hj, by simpa using hju⟩, rfl⟩
    have h2 := (foldl_max_mem ((metsI f n).map (·.2)) 0).2 _ h1
    have h3 : upI f 0 0 = 1 := by simp [upI]
    omega
end Go.Proofs.YtepkhkfdokinmaaDoor

/-
  Which names the codes have that check asks for; check.within, tests, returns; the reference's returns.
-/
namespace Go.Proofs.YtepkhkfdokinmaaDoor
open Go.RowKit

theorem find_none_of {c : Int} (h : rowC c = none) : ∀ i ∈ List.range 41, (kC i == c) = false := fun i hi => by
  have := List.find?_eq_none.1 h i hi
  simpa using this
/-- The name of a code is this text at this code alone. -/
theorem nm_eq (c v : Int) (s : List UInt8) (h : ((List.range 41).all fun i => ((kAt i).2.1 == s) == (kC i == v)) = true) (hv : ((List.range 41).any fun i => kC i == v) = true) (hs : s.isEmpty = false) : (nameOf c).1.toList = s ↔ c = v := by
  simp only [ByteArray.toList_eq]
  unfold nameOf
  cases hr : rowC c with
  | none =>
    have h1 : c ≠ v := by
      rintro rfl
      obtain ⟨i, hi, he⟩ := List.any_eq_true.1 hv
      have := find_none_of hr i hi
      rw [this] at he; cases he
    simp only [h1, iff_false]
    rintro rfl
    cases hs
  | some i =>
    obtain ⟨hi, rfl⟩ := rowC_some hr
    have := List.all_eq_true.1 h i (List.mem_range.2 hi)
    rw [Bool.beq_eq_decide_eq, decide_eq_true_eq, Bool.eq_iff_iff, beq_iff_eq, beq_iff_eq] at this
    exact this
theorem nm_ret_k (c : Int) : (nameOf c).1.toList = [114, 101, 116, 46, 107] ↔ c = 6 := nm_eq c 6 [114, 101, 116, 46, 107] (by decide) (by decide) rfl
theorem nm_ret_a (c : Int) : (nameOf c).1.toList = [114, 101, 116, 46, 97] ↔ c = 22 := nm_eq c 22 [114, 101, 116, 46, 97] (by decide) (by decide) rfl
theorem nm_div_k (c : Int) : (nameOf c).1.toList = [100, 105, 118, 46, 107] ↔ c = 52 := nm_eq c 52 [100, 105, 118, 46, 107] (by decide) (by decide) rfl
theorem nm_lsh_k (c : Int) : (nameOf c).1.toList = [108, 115, 104, 46, 107] ↔ c = 100 := nm_eq c 100 [108, 115, 104, 46, 107] (by decide) (by decide) rfl
theorem nm_rsh_k (c : Int) : (nameOf c).1.toList = [114, 115, 104, 46, 107] ↔ c = 116 := nm_eq c 116 [114, 115, 104, 46, 107] (by decide) (by decide) rfl
theorem nm_ld_abs (c : Int) : (nameOf c).1.toList = [108, 100, 46, 97, 98, 115] ↔ c = 32 := nm_eq c 32 [108, 100, 46, 97, 98, 115] (by decide) (by decide) rfl

/-- The form of the codes whose names are asked for. -/
theorem form_named {c : Int} (h : c = 52 ∨ c = 100 ∨ c = 116 ∨ c = 6) : formOf c = 1 := by rcases h with rfl | rfl | rfl | rfl <;> rfl
theorem form_22 : formOf 22 = 0 := by rfl
theorem form_2 {c : Int} : formOf c = 2 ↔ c = 32 := by
  constructor
  · intro h
    unfold formOf at h
    cases hr : rowC c with
    | none => rw [hr] at h; cases h
    | some i =>
      rw [hr] at h
      obtain ⟨hi, rfl⟩ := rowC_some hr
      have hall : ((List.range 41).all fun i => (kF i != 2) || (kC i == 32)) = true := by decide
      have := List.all_eq_true.1 hall i (List.mem_range.2 hi)
      simp only at h
      rw [h] at this
      simpa using this
  · rintro rfl; rfl
theorem name_fst (c : Int) (h : rowC c ≠ none) : nameOf c = ((nameOf c).1, true) := by
  unfold nameOf
  cases hr : rowC c with
  | none => exact absurd hr h
  | some i => rfl
theorem name_no {c : Int} (h : rowC c = none) : nameOf c = (⟨#[]⟩, false) := by
  unfold nameOf
  rw [h]
theorem form_no {c : Int} (h : rowC c = none) : formOf c = -1 := by
  unfold formOf
  rw [h]

theorem oneL_32 (left a b k : Int) : oneL left (32, a, b, k) = if k % 4 ≠ 0 ∨ 64 ≤ k then 142 else 0 := by
  simp [oneL, show rowC 32 ≠ none by decide, show formOf 32 = 2 by rfl]
theorem oneL_52 (left a b k : Int) : oneL left (52, a, b, k) = if k = 0 then 143 else 0 := by
  simp [oneL, show rowC 52 ≠ none by decide, show formOf 52 = 1 by rfl]
theorem oneL_100 (left a b k : Int) : oneL left (100, a, b, k) = if 32 ≤ k then 144 else 0 := by
  simp [oneL, show rowC 100 ≠ none by decide, show formOf 100 = 1 by rfl]
theorem oneL_116 (left a b k : Int) : oneL left (116, a, b, k) = if 32 ≤ k then 144 else 0 := by
  simp [oneL, show rowC 116 ≠ none by decide, show formOf 116 = 1 by rfl]

set_option maxHeartbeats 1000000 in
theorem within_any (k : Int) (i n : Nat) (w : World) (h0 : 0 ≤ k) (h1 : k ≤ 4294967295) (hi : i ≤ 1000) (hn : n ≤ 1000) :
    Calls Tryd.prog 67 #[.int .u32 k, .int .i64 i, .int .i64 n] w fun e w' => e = .returned (.bool (decide (k < (n : Int) - 1 - i))) ∧ w' = w := by
  by_cases h : k < (n : Int) - 1 - i
  · have hq : (i : Int) + 1 + k < n := by omega
    have hp : (i : Int) + 1 + k > i := by omega
    simp only [h, decide_true]
    go_enter Tryd.func67, Tryd.ntmps67
    go_wp2
    go_ret
    exact ⟨rfl, rfl⟩
  · have hq : ¬ (i : Int) + 1 + k < n := by omega
    have hp : (i : Int) + 1 + k > i := by omega
    simp only [h, decide_false]
    go_enter Tryd.func67, Tryd.ntmps67
    go_wp2
    go_ret
    exact ⟨rfl, rfl⟩

set_option maxHeartbeats 1000000 in
theorem tests_any (q : Ins) (w : World) (hK : Kinds w) :
    Calls Tryd.prog 68 #[valI q] w fun e w' => e = .returned (.bool (decide (formOf q.1 = 5 ∨ formOf q.1 = 6))) ∧ Below w.heap.size w w' := by
  obtain ⟨c, a, b, k⟩ := q
  have hF := fun w hK => form_any c w hK
  simp only [valI, insV]
  obtain ⟨fm, hfm⟩ : ∃ fm, formOf c = fm := ⟨_, rfl⟩
  rw [hfm] at hF ⊢
  clear hfm
  by_cases h5 : fm = 5
  · subst h5
    go_enter Tryd.func68, Tryd.ntmps68
    go_wp2_with fail
    refine (hF _ (hK.alloc _)).mono ?_
    rintro e w1 ⟨rfl, rfl⟩
    go_wp2_with fail
    go_ret
    exact ⟨by simp [*], (Below.refl _ _).alloc (Nat.le_refl _) _⟩
  · by_cases h6 : fm = 6
    · subst h6
      go_enter Tryd.func68, Tryd.ntmps68
      go_wp2_with fail
      refine (hF _ (hK.alloc _)).mono ?_
      rintro e w1 ⟨rfl, rfl⟩
      go_wp2_with fail
      go_ret
      exact ⟨by simp [*], (Below.refl _ _).alloc (Nat.le_refl _) _⟩
    · go_enter Tryd.func68, Tryd.ntmps68
      go_wp2_with fail
      refine (hF _ (hK.alloc _)).mono ?_
      rintro e w1 ⟨rfl, rfl⟩
      go_wp2_with fail
      go_ret
      exact ⟨by simp [*], (Below.refl _ _).alloc (Nat.le_refl _) _⟩

set_option maxHeartbeats 1000000 in
theorem returns_any (q : Ins) (w : World) (hK : Kinds w) :
    Calls Tryd.prog 48 #[valI q] w fun e w' => e = .returned (.bool (retI q)) ∧ Below w.heap.size w w' := by
  obtain ⟨c, a, b, k⟩ := q
  have hN := fun w hK => name_any c w hK
  have n1 := nm_ret_k c
  have n2 := nm_ret_a c
  simp only [valI, insV, retI]
  obtain ⟨s, hs⟩ : ∃ s, (nameOf c).1 = s := ⟨_, rfl⟩
  obtain ⟨t, ht⟩ : ∃ t, (nameOf c).2 = t := ⟨_, rfl⟩
  rw [hs] at hN n1 n2
  rw [ht] at hN
  clear hs ht
  by_cases h6 : c = 6
  · subst h6
    simp only [iff_true] at n1
    go_enter Tryd.func48, Tryd.ntmps48
    go_wp2_with fail
    refine (hN _ (hK.alloc _)).mono ?_
    rintro e w1 ⟨rfl, hb⟩
    go_wp2_with fail
    go_ret
    exact ⟨by simp [*], ((Below.refl _ _).alloc (Nat.le_refl _) _).trans (hb.mono (by simp))⟩
  · simp only [h6, iff_false] at n1
    by_cases h22 : c = 22
    · subst h22
      simp only [iff_true] at n2
      go_enter Tryd.func48, Tryd.ntmps48
      go_wp2_with fail
      refine (hN _ (hK.alloc _)).mono ?_
      rintro e w1 ⟨rfl, hb⟩
      go_wp2_with fail
      go_ret
      exact ⟨by simp [*], ((Below.refl _ _).alloc (Nat.le_refl _) _).trans (hb.mono (by simp))⟩
    · simp only [h22, iff_false] at n2
      go_enter Tryd.func48, Tryd.ntmps48
      go_wp2_with fail
      refine (hN _ (hK.alloc _)).mono ?_
      rintro e w1 ⟨rfl, hb⟩
      go_wp2_with fail
      go_ret
      exact ⟨by simp [*], ((Below.refl _ _).alloc (Nat.le_refl _) _).trans (hb.mono (by simp))⟩

end Go.Proofs.YtepkhkfdokinmaaDoor
