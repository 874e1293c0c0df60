/-
  The call's own bytes, written cell by cell.
-/
import Derived.Test.YtndmlbepjcagiaaDoorApp
namespace Go.Proofs.YtndmlbepjcagiaaDoor
open Go.RowKit

section
variable {w w' : World} {base n c g : Nat} {A : Option Addr} {l : List Int}
theorem Ow.far (h : Ow w base A n c l) {p : Addr} (hp : p.block < base) (u : Value) : Ow (w.setCell p u) base A n c l := by
  refine ⟨⟨h.own.1, ?_⟩, h.byt⟩
  rcases h.own.2 with h0 | ⟨g, cap, cur, hv, hg, hh, r⟩
  · exact .inl h0
  · exact .inr ⟨g, cap, cur, hv, hg, (Below.heap_setCell w p u g (by omega)).trans hh, r⟩
theorem Ow.at_ (h : Ow w base (some ⟨g, 0, none⟩) n c l) {k : Nat} (hk : k < n) : w.cell? ⟨g, k, none⟩ = some (.int .u8 (l.getD k 0)) ∧ w.frozen? ⟨g, k, none⟩ = false := by
  obtain ⟨b, off, e, _, hc⟩ := h.rd.at_ hk
  injection e with e
  injection e with e1 e2
  subst e1 e2
  refine ⟨by simpa using hc, ?_⟩
  rcases h.own.2 with ⟨hv, _⟩ | ⟨g', cap, cur, hv, hg, hh, r⟩
  · cases hv
  · injection hv with e3
    injection e3 with e3
    injection e3 with e3
    subst e3
    simp [World.frozen?, hh]
theorem Ow.set_ (h : Ow w base (some ⟨g, 0, none⟩) n c l) {k : Nat} (_hk : k < n) (z : Int) (hz : 0 ≤ z ∧ z ≤ 255) : Ow (w.setCell ⟨g, k, none⟩ (.int .u8 z)) base (some ⟨g, 0, none⟩) n c (l.set k z) := by
  refine ⟨⟨?_, ?_⟩, fun y hy => ?_⟩
  · rw [bv_length, List.length_set, h.len, Nat.mul_one]
  · rcases h.own.2 with ⟨hv, _⟩ | ⟨g', cap, cur, hv, hg, hh, h1, h2, h3, h4⟩
    · cases hv
    · have hv' := hv
      injection hv' with e3
      injection e3 with e3
      injection e3 with e3
      subst e3
      refine .inr ⟨g, cap, cur.setIfInBounds k (.int .u8 z), hv, hg, by simp [World.setCell, Array.getElem?_modify, hh], h1, h2, by simpa using h3, ?_⟩
      rw [Nat.mul_one] at h4 ⊢
      rw [Array.toList_setIfInBounds, List.take_set, h4]
      simp [bv, List.map_set]
  · rcases List.mem_or_eq_of_mem_set hy with h1 | h1
    · exact h.byt y h1
    · subst h1; exact hz
end
end Go.Proofs.YtndmlbepjcagiaaDoor
