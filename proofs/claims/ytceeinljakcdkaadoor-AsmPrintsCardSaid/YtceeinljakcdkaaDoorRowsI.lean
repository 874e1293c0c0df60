/-
  Rows of instructions that came in, and how they are opened.
-/
import Derived.Test.YtceeinljakcdkaaDoorOpenI
namespace Go.Proofs.YtceeinljakcdkaaDoor
open Go.RowKit

/-- A row of instructions that came in: where it lies, how long, its room, its instructions. -/
abbrev RowJ := Option Addr × Nat × Nat × (Nat → Ins)
def RowsI (w : World) (B : Nat) (A : Option Addr) (n : Nat) (R : Nat → RowJ) : Prop := ∀ k, k < n → ∃ b off, A = some ⟨b, off, none⟩ ∧ b < B ∧
  w.cell? ⟨b, off + k, none⟩ = some (.slice (R k).1 (R k).2.1 (R k).2.2.1) ∧ Ri w B (R k).1 (R k).2.1 (R k).2.2.2 ∧ (R k).2.1 ≤ (R k).2.2.1 ∧ (R k).2.1 ≤ 9223372036854775807
theorem RowsI.below {w w' : World} {B n : Nat} {A : Option Addr} {R : Nat → RowJ} (h : RowsI w B A n R) (hb : Below B w w') : RowsI w' B A n R := fun k hk => by
  obtain ⟨b, off, e, h1, hc, hr, h2, h3⟩ := h k hk
  exact ⟨b, off, e, h1, (hb.cell (p := ⟨b, off + k, none⟩) h1).trans hc, hr.below hb (Nat.le_refl _), h2, h3⟩

set_option maxRecDepth 100000 in
theorem rowsI_of {H : Type} {enc : TypeId × Value → H} {w : World} {base : Nat} {spare : Nat → Bool} {held : Bool} {fuel : Nat} {a : Option Addr} {l c : Nat} {x : DataW H × List MemPlace}
    (h : DataW.trod enc Tryd.prog w base spare held fuel 22 [.slice a l c] = some x) : ∃ R, RowsI w w.heap.size a l R ∧ l ≤ 9223372036854775807 := by
  rcases Go.Deep.open_slice Tryd.underlying22 h with ⟨hcs, _⟩ | ⟨p, l', c', m, n, D, Pl, hcs, _, hl, hm, hmm, _, hel⟩
  · simp at hcs
    obtain ⟨rfl, rfl, rfl⟩ := hcs
    exact ⟨fun _ => (none, 0, 0, fun _ => (0, 0, 0, 0)), fun k hk => absurd hk (by omega), by omega⟩
  · simp at hcs
    obtain ⟨rfl, rfl, rfl⟩ := hcs
    have hlm : l ≤ m := by rw [hmm]; split <;> omega
    have hc1 : Tryd.prog.cellsOf 24 = 1 := by kernel_rfl
    rw [hc1] at hel
    have each : ∀ i, i < l → ∃ q : RowJ, w.cell? (p.add (i * 1)) = some (.slice q.1 q.2.1 q.2.2.1) ∧ Ri w w.heap.size q.1 q.2.1 q.2.2.2 ∧ q.2.1 ≤ q.2.2.1 ∧ q.2.1 ≤ maxLen := by
      intro i hi
      obtain ⟨cs', h1, h2⟩ := hel i (by omega)
      obtain ⟨_, hlen, hcell⟩ := World.cells?_some h1
      match cs', hlen with
      | [v], _ =>
        have hv : ∃ a' l' c', v = .slice a' l' c' := by
          rcases Go.Deep.open_slice Tryd.underlying24 h2 with ⟨e, _⟩ | ⟨_, _, _, _, _, _, _, e, _⟩
          · simp at e; exact ⟨_, _, _, e⟩
          · simp at e; exact ⟨_, _, _, e⟩
        obtain ⟨a', l', c', rfl⟩ := hv
        obtain ⟨f, r, h3, h4⟩ := insns_of h2
        have := hcell 0 (by omega)
        refine ⟨(a', l', c', f), ?_, r, h3, h4⟩
        rw [Go.Deep.add_add] at this
        simpa using this
    obtain ⟨q, hq⟩ := Go.Deep.choose_lt each
    refine ⟨q, fun k hk => ?_, by unfold maxLen at hm; omega⟩
    obtain ⟨e0, r, h3, h4⟩ := hq k hk
    have z := (hq 0 (by omega)).1
    rw [Nat.mul_one] at e0
    rw [Nat.zero_mul] at z
    obtain ⟨ea, hb, g0⟩ := add_none e0 ⟨_, z⟩
    exact ⟨p.block, p.off, congrArg some ea, hb, g0, r, h3, by unfold maxLen at h4; omega⟩
end Go.Proofs.YtceeinljakcdkaaDoor
