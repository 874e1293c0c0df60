/-
  Which names the codes have that check asks for; check.within, tests, returns; the reference's returns.
-/
import Derived.Test.YtpeofpilfpjjpaaGreatDoorHE
import Derived.Test.YtpeofpilfpjjpaaGreatDoorHF
namespace Go.Proofs.YtpeofpilfpjjpaaGreatDoor
open Go.RowKit

theorem find_none_of {c : Int} (h : rowC c = none) : ∀ i ∈ List.range 41, (kC i == c) = false := fun i hi => by
  have := List.find?_eq_none.1 h i hi
  simpa using this
/-- The name of a code is this text at this code alone. -/
theorem nm_eq (c v : Int) (s : List UInt8) (h : ((List.range 41).all fun i => ((kAt i).2.1 == s) == (kC i == v)) = true) (hv : ((List.range 41).any fun i => kC i == v) = true) (hs : s.isEmpty = false) : (nameOf c).1.toList = s ↔ c = v := by
  simp only [ByteArray.toList_eq]
  unfold nameOf
  cases hr : rowC c with
  | none =>
    have h1 : c ≠ v := by
      rintro rfl
      obtain ⟨i, hi, he⟩ := List.any_eq_true.1 hv
      have := find_none_of hr i hi
      rw [this] at he; cases he
    simp only [h1, iff_false]
    rintro rfl
    cases hs
  | some i =>
    obtain ⟨hi, rfl⟩ := rowC_some hr
    have := List.all_eq_true.1 h i (List.mem_range.2 hi)
    rw [Bool.beq_eq_decide_eq, decide_eq_true_eq, Bool.eq_iff_iff, beq_iff_eq, beq_iff_eq] at this
    exact this
theorem nm_ret_k (c : Int) : (nameOf c).1.toList = [114, 101, 116, 46, 107] ↔ c = 6 := nm_eq c 6 [114, 101, 116, 46, 107] (by decide) (by decide) rfl
theorem nm_ret_a (c : Int) : (nameOf c).1.toList = [114, 101, 116, 46, 97] ↔ c = 22 := nm_eq c 22 [114, 101, 116, 46, 97] (by decide) (by decide) rfl
theorem nm_div_k (c : Int) : (nameOf c).1.toList = [100, 105, 118, 46, 107] ↔ c = 52 := nm_eq c 52 [100, 105, 118, 46, 107] (by decide) (by decide) rfl
theorem nm_lsh_k (c : Int) : (nameOf c).1.toList = [108, 115, 104, 46, 107] ↔ c = 100 := nm_eq c 100 [108, 115, 104, 46, 107] (by decide) (by decide) rfl
theorem nm_rsh_k (c : Int) : (nameOf c).1.toList = [114, 115, 104, 46, 107] ↔ c = 116 := nm_eq c 116 [114, 115, 104, 46, 107] (by decide) (by decide) rfl
theorem nm_ld_abs (c : Int) : (nameOf c).1.toList = [108, 100, 46, 97, 98, 115] ↔ c = 32 := nm_eq c 32 [108, 100, 46, 97, 98, 115] (by decide) (by decide) rfl

/-- The form of the codes whose names are asked for. -/
theorem form_named {c : Int} (h : c = 52 ∨ c = 100 ∨ c = 116 ∨ c = 6) : formOf c = 1 := by rcases h with rfl | rfl | rfl | rfl <;> rfl
theorem form_22 : formOf 22 = 0 := by rfl
theorem form_2 {c : Int} : formOf c = 2 ↔ c = 32 := by
  constructor
  · intro h
    unfold formOf at h
    cases hr : rowC c with
    | none => rw [hr] at h; cases h
    | some i =>
      rw [hr] at h
      obtain ⟨hi, rfl⟩ := rowC_some hr
      have hall : ((List.range 41).all fun i => (kF i != 2) || (kC i == 32)) = true := by decide
      have := List.all_eq_true.1 hall i (List.mem_range.2 hi)
      simp only at h
      rw [h] at this
      simpa using this
  · rintro rfl; rfl
theorem name_fst (c : Int) (h : rowC c ≠ none) : nameOf c = ((nameOf c).1, true) := by
  unfold nameOf
  cases hr : rowC c with
  | none => exact absurd hr h
  | some i => rfl
theorem name_no {c : Int} (h : rowC c = none) : nameOf c = (⟨#[]⟩, false) := by
  unfold nameOf
  rw [h]
theorem form_no {c : Int} (h : rowC c = none) : formOf c = -1 := by
  unfold formOf
  rw [h]

theorem oneL_32 (left a b k : Int) : oneL left (32, a, b, k) = if k % 4 ≠ 0 ∨ 64 ≤ k then 142 else 0 := by
  simp [oneL, show rowC 32 ≠ none by decide, show formOf 32 = 2 by rfl]
theorem oneL_52 (left a b k : Int) : oneL left (52, a, b, k) = if k = 0 then 143 else 0 := by
  simp [oneL, show rowC 52 ≠ none by decide, show formOf 52 = 1 by rfl]
theorem oneL_100 (left a b k : Int) : oneL left (100, a, b, k) = if 32 ≤ k then 144 else 0 := by
  simp [oneL, show rowC 100 ≠ none by decide, show formOf 100 = 1 by rfl]
theorem oneL_116 (left a b k : Int) : oneL left (116, a, b, k) = if 32 ≤ k then 144 else 0 := by
  simp [oneL, show rowC 116 ≠ none by decide, show formOf 116 = 1 by rfl]

set_option maxHeartbeats 1000000 in
theorem within_any (k : Int) (i n : Nat) (w : World) (h0 : 0 ≤ k) (h1 : k ≤ 4294967295) (hi : i ≤ 1000) (hn : n ≤ 1000) :
    Calls Tryz.prog 104 #[.int .u32 k, .int .i64 i, .int .i64 n] w fun e w' => e = .returned (.bool (decide (k < (n : Int) - 1 - i))) ∧ w' = w := by
  by_cases h : k < (n : Int) - 1 - i
  · have hq : (i : Int) + 1 + k < n := by omega
    have hp : (i : Int) + 1 + k > i := by omega
    simp only [h, decide_true]
    go_enter Tryz.func104, Tryz.ntmps104
    go_wp2
    go_ret
    exact ⟨rfl, rfl⟩
  · have hq : ¬ (i : Int) + 1 + k < n := by omega
    have hp : (i : Int) + 1 + k > i := by omega
    simp only [h, decide_false]
    go_enter Tryz.func104, Tryz.ntmps104
    go_wp2
    go_ret
    exact ⟨rfl, rfl⟩

set_option maxHeartbeats 1000000 in
theorem tests_any (q : Ins) (w : World) (hK : Kinds w) :
    Calls Tryz.prog 105 #[valI q] w fun e w' => e = .returned (.bool (decide (formOf q.1 = 5 ∨ formOf q.1 = 6))) ∧ Below w.heap.size w w' := by
  obtain ⟨c, a, b, k⟩ := q
  have hF := fun w hK => form_any c w hK
  simp only [valI, insV]
  obtain ⟨fm, hfm⟩ : ∃ fm, formOf c = fm := ⟨_, rfl⟩
  rw [hfm] at hF ⊢
  clear hfm
  by_cases h5 : fm = 5
  · subst h5
    go_enter Tryz.func105, Tryz.ntmps105
    go_wp2_with fail
    refine (hF _ (hK.alloc _)).mono ?_
    rintro e w1 ⟨rfl, rfl⟩
    go_wp2_with fail
    go_ret
    exact ⟨by simp [*], (Below.refl _ _).alloc (Nat.le_refl _) _⟩
  · by_cases h6 : fm = 6
    · subst h6
      go_enter Tryz.func105, Tryz.ntmps105
      go_wp2_with fail
      refine (hF _ (hK.alloc _)).mono ?_
      rintro e w1 ⟨rfl, rfl⟩
      go_wp2_with fail
      go_ret
      exact ⟨by simp [*], (Below.refl _ _).alloc (Nat.le_refl _) _⟩
    · go_enter Tryz.func105, Tryz.ntmps105
      go_wp2_with fail
      refine (hF _ (hK.alloc _)).mono ?_
      rintro e w1 ⟨rfl, rfl⟩
      go_wp2_with fail
      go_ret
      exact ⟨by simp [*], (Below.refl _ _).alloc (Nat.le_refl _) _⟩

set_option maxHeartbeats 1000000 in
theorem returns_any (q : Ins) (w : World) (hK : Kinds w) :
    Calls Tryz.prog 89 #[valI q] w fun e w' => e = .returned (.bool (retI q)) ∧ Below w.heap.size w w' := by
  obtain ⟨c, a, b, k⟩ := q
  have hN := fun w hK => name_any c w hK
  have n1 := nm_ret_k c
  have n2 := nm_ret_a c
  simp only [valI, insV, retI]
  obtain ⟨s, hs⟩ : ∃ s, (nameOf c).1 = s := ⟨_, rfl⟩
  obtain ⟨t, ht⟩ : ∃ t, (nameOf c).2 = t := ⟨_, rfl⟩
  rw [hs] at hN n1 n2
  rw [ht] at hN
  clear hs ht
  by_cases h6 : c = 6
  · subst h6
    simp only [iff_true] at n1
    go_enter Tryz.func89, Tryz.ntmps89
    go_wp2_with fail
    refine (hN _ (hK.alloc _)).mono ?_
    rintro e w1 ⟨rfl, hb⟩
    go_wp2_with fail
    go_ret
    exact ⟨by simp [*], ((Below.refl _ _).alloc (Nat.le_refl _) _).trans (hb.mono (by simp))⟩
  · simp only [h6, iff_false] at n1
    by_cases h22 : c = 22
    · subst h22
      simp only [iff_true] at n2
      go_enter Tryz.func89, Tryz.ntmps89
      go_wp2_with fail
      refine (hN _ (hK.alloc _)).mono ?_
      rintro e w1 ⟨rfl, hb⟩
      go_wp2_with fail
      go_ret
      exact ⟨by simp [*], ((Below.refl _ _).alloc (Nat.le_refl _) _).trans (hb.mono (by simp))⟩
    · simp only [h22, iff_false] at n2
      go_enter Tryz.func89, Tryz.ntmps89
      go_wp2_with fail
      refine (hN _ (hK.alloc _)).mono ?_
      rintro e w1 ⟨rfl, hb⟩
      go_wp2_with fail
      go_ret
      exact ⟨by simp [*], ((Below.refl _ _).alloc (Nat.le_refl _) _).trans (hb.mono (by simp))⟩

end Go.Proofs.YtpeofpilfpjjpaaGreatDoor
