/-
  An id that is freed is taken again behind all others that are free: plain.
-/
import Derived.Test.YtjbhliabmaipbaaPiM
namespace Go.Proofs.Ytjbhliabmaipbaa
set_option linter.unusedVariables false

/-- Behind the freeing of id: who was given since, and that id is free till the last. -/
def lateP (id : Nat) (cur : Int) (L : List Int) : Prop := Ids cur L ∧ (L.length < 20 → (id : Int) ∉ L ∧ ∃ t, cur.toNat % 20 = (id + t) % 20 ∧ ∀ j, j < t → ((cand id j : Nat) : Int) ∈ L)
theorem ins_del {l : List Int} {x : Int} (h : l.Pairwise (· < ·)) (hx : x ∉ l) : delP (insP l x) x = l := by
  have hu := up_insP h hx
  have hm : x ∈ insP l x := mem_insP.2 (.inl rfl)
  refine up_ext (up_delP hu hm) h fun y => ?_
  rw [mem_delP hu hm, mem_insP]
  constructor
  · rintro ⟨h1 | h1, h2⟩
    · exact absurd h1 h2
    · exact h1
  · exact fun hy => ⟨.inr hy, fun e => hx (e ▸ hy)⟩
theorem late_begin {id : Nat} {L : List Int} (h : Ids (id : Int) L) (hx : (id : Int) ∉ L) : lateP id id L := ⟨h, fun _ => ⟨hx, 0, by simp, fun j hj => absurd hj (Nat.not_lt_zero j)⟩⟩
theorem cand_self {id : Nat} (h1 : 1 ≤ id) (h2 : id ≤ 20) : cand id 19 = id := by unfold cand; omega
theorem late_step {id : Nat} {cur : Int} {L : List Int} (h1 : 1 ≤ id) (h2 : id ≤ 20) (h : lateP id cur L) (hl : L.length < 20) :
    ∃ i, nextP cur.toNat L = some i ∧ (((cand cur.toNat i : Nat) : Int) == (id : Int)) = ((L.length : Int) == 19) ∧ lateP id ((cand cur.toNat i : Nat) : Int) (insP L ((cand cur.toNat i : Nat) : Int)) := by
  obtain ⟨hI, hr⟩ := h
  obtain ⟨hid, t, ht, hall⟩ := hr hl
  obtain ⟨i, hi⟩ : ∃ i, nextP cur.toNat L = some i := by
    cases hn : nextP cur.toNat L with
    | none => have := hI.none_iff.1 hn; omega
    | some i => exact ⟨i, rfl⟩
  obtain ⟨hi20, hx, hpre⟩ := nextP_some hi
  have hcand : ∀ j, cand cur.toNat j = cand id (t + j) := fun j => by unfold cand; omega
  have hall2 : ∀ j, j < t + i → ((cand id j : Nat) : Int) ∈ L := fun j hj => by
    rcases Nat.lt_or_ge j t with h | h
    · exact hall j h
    · have := hpre (j - t) (by omega)
      rw [hcand, show t + (j - t) = j by omega] at this
      exact this
  have hti : t + i ≤ 19 := by
    rcases Nat.lt_or_ge 19 (t + i) with h | h
    · exfalso
      have := hall2 19 h
      rw [cand_self h1 h2] at this
      exact hid this
    · exact h
  have hlast : L.length = 19 → ((cand cur.toNat i : Nat) : Int) = (id : Int) := fun h19 => by
    have hI2 := hI.taken hi
    have h3 := cand_le cur.toNat i
    have := hI2.full (by rw [len_insP, h19]) (x := (id : Int)) (by omega) (by omega)
    rcases mem_insP.1 this with e | e
    · exact e.symm
    · exact absurd e hid
  have hback : ((cand cur.toNat i : Nat) : Int) = (id : Int) → L.length = 19 := fun he => by
    have h19 : t + i = 19 := by
      rw [hcand] at he
      unfold cand at he
      omega
    have hfull := (hI.taken hi).full_of fun y hy1 hy2 => by
      rw [mem_insP]
      obtain ⟨j, hj, e⟩ := cand_all id hy1 hy2
      rcases Nat.lt_or_ge j 19 with h | h
      · exact .inr (by rw [← e]; exact hall2 j (by omega))
      · left
        rw [← e, he]
        have : j = 19 := by omega
        rw [this, cand_self h1 h2]
    rw [len_insP] at hfull
    omega
  refine ⟨i, hi, ?_, hI.taken hi, fun hlt => ⟨?_, t + i + 1, ?_, fun j hj => ?_⟩⟩
  · rw [Bool.eq_iff_iff, beq_iff_eq, beq_iff_eq]
    constructor
    · intro e; have := hback e; omega
    · intro e; exact hlast (by omega)
  · rw [mem_insP]
    rintro (e | e)
    · have := hback e.symm
      rw [len_insP] at hlt
      omega
    · exact hid e
  · have : ((cand cur.toNat i : Nat) : Int).toNat = cand cur.toNat i := by omega
    rw [this, hcand]
    unfold cand
    omega
  · rw [mem_insP]
    rcases Nat.lt_or_ge j (t + i) with h | h
    · exact .inr (hall2 j h)
    · left
      rw [hcand, show t + i = j by omega]
end Go.Proofs.Ytjbhliabmaipbaa
