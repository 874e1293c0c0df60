/-
  The verdict of a row: the first one of the least action (for a seat that has HaD).
-/
import Derived.Test.YtpeofpilfpjjpaaGreatDoorHaD
namespace Go.Proofs.YtpeofpilfpjjpaaGreatDoor
open Go.RowKit

theorem lowS_take (l : List Int) (k : Nat) (h : k < l.length) : lowS (l.take (k + 1)) = lowF (lowS (l.take k)) (l.getD k 0) := by
  have e : l.take (k + 1) = l.take k ++ [l.getD k 0] := by rw [List.take_succ_eq_append_getElem h]; simp [List.getD, h]
  rw [e, lowS_snoc]
/-- Of the first k words the p-th is the first one of the least action. -/
structure FM (L : List Int) (k p : Nat) : Prop where
  lt : p < k
  least : ∀ i, i < k → actI (L.getD p 0) ≤ actI (L.getD i 0)
  first : ∀ i, i < p → actI (L.getD p 0) < actI (L.getD i 0)
theorem FM.uniq {L : List Int} {k p q : Nat} (h : FM L k p) (h' : FM L k q) : p = q := by
  rcases Nat.lt_trichotomy p q with hlt | rfl | hlt
  · have := h'.first p hlt; have := h.least q h'.lt; omega
  · rfl
  · have := h.first q hlt; have := h'.least p h.lt; omega
theorem lowS_spec (L : List Int) : ∀ k, 0 < k → k ≤ L.length → ∃ p, FM L k p ∧ lowS (L.take k) = (L.getD p 0, (p : Int), k)
  | 0, h, _ => absurd h (by omega)
  | 1, _, hk => by
    refine ⟨0, ⟨by omega, fun i hi => by obtain rfl : i = 0 := by omega
                                         exact Nat.le_refl _, fun i hi => absurd hi (by omega)⟩, ?_⟩
    rw [lowS_take L 0 (by omega)]
    rfl
  | k + 2, _, hk => by
    obtain ⟨p, hp, e⟩ := lowS_spec L (k + 1) (by omega) (by omega)
    rw [lowS_take L (k + 1) (by omega), e]
    by_cases hlt : actI (L.getD (k + 1) 0) < actI (L.getD p 0)
    · refine ⟨k + 1, ⟨by omega, fun i hi => ?_, fun i hi => ?_⟩, ?_⟩
      · rcases Nat.lt_or_ge i (k + 1) with h | h
        · have := hp.least i h; omega
        · obtain rfl : i = k + 1 := by omega
          exact Nat.le_refl _
      · have := hp.least i hi; omega
      · rw [lowF, if_pos (.inr hlt)]
    · refine ⟨p, ⟨by have := hp.lt; omega, fun i hi => ?_, hp.first⟩, ?_⟩
      · rcases Nat.lt_or_ge i (k + 1) with h | h
        · exact hp.least i h
        · obtain rfl : i = k + 1 := by omega
          omega
      · rw [lowF, if_neg]
        rintro (h | h)
        · have : ¬ ((p : Int) < 0) := by omega
          exact this h
        · exact hlt h
theorem cmb_spec (L : List Int) (h : 0 < L.length) : ∃ p, FM L L.length p ∧ cmbI L = (actI (L.getD p 0), L.getD p 0 % 65536, (p : Int)) := by
  obtain ⟨p, hp, e⟩ := lowS_spec L L.length h (Nat.le_refl _)
  rw [List.take_length] at e
  refine ⟨p, hp, ?_⟩
  unfold cmbI
  rw [e, if_neg (by show ¬ (p : Int) < 0; omega)]
theorem cmb_nil : cmbI [] = (7, 0, -1) := rfl
theorem cmb_le (L : List Int) (i : Nat) (hi : i < L.length) : (cmbI L).1 ≤ actI (L.getD i 0) ∧ ((i : Int) < (cmbI L).2.2 → (cmbI L).1 < actI (L.getD i 0)) := by
  obtain ⟨p, hp, e⟩ := cmb_spec L (by omega)
  rw [e]
  exact ⟨hp.least i hi, fun h => hp.first i (by simp only at h; omega)⟩
theorem cmb_drop (L : List Int) (i : Nat) (hi : i < L.length) : (cmbI L).1 ≤ (cmbI (L.drop i)).1 := by
  obtain ⟨q, hq, e⟩ := cmb_spec (L.drop i) (by rw [List.length_drop]; omega)
  have hlt := hq.lt
  rw [List.length_drop] at hlt
  have := (cmb_le L (i + q) (by omega)).1
  rw [e]
  have e2 : (L.drop i).getD q 0 = L.getD (i + q) 0 := by simp [List.getD, List.getElem?_drop]
  simp only [e2]
  exact this
end Go.Proofs.YtpeofpilfpjjpaaGreatDoor
