/-
  Numbers and texts that came in, as they are opened.
-/
import Derived.Test.YtndmlbepjcagiaaDoorCodesW
namespace Go.Proofs.YtndmlbepjcagiaaDoor
open Go.RowKit

theorem add_none {x : Addr} {k : Nat} {w : World} {v : Value} (h : w.cell? (x.add k) = some v) (h0 : ∃ v0, w.cell? (x.add 0) = some v0) : x = ⟨x.block, x.off, none⟩ ∧ x.block < w.heap.size ∧ w.cell? ⟨x.block, x.off + k, none⟩ = some v := by
  obtain ⟨b, off, spot⟩ := x
  obtain ⟨v0, h0⟩ := h0
  obtain rfl : spot = none := by simpa [Addr.add] using World.cell?_spot h0
  have e : (⟨b, off, none⟩ : Addr).add k = ⟨b, off + k, none⟩ := by unfold Addr.add; by_cases hk : k = 0 <;> simp [hk]
  have hb := World.block_lt_of_cell? w _ h
  rw [e] at h hb
  exact ⟨rfl, hb, h⟩
theorem nums_of_row {w : World} {a : Option Addr} {len cap : Nat} {zs : List Int}
    (h : (a = none ∧ len = 0 ∧ cap = 0 ∧ zs = []) ∨ ∃ x, a = some x ∧ len ≤ cap ∧ cap ≤ maxLen ∧ zs.length = cap ∧ (∀ i, i < zs.length → w.cell? (x.add i) = some (.int .u16 (zs.getD i 0))) ∧ ∀ n ∈ zs, (Lit.int .u16 n).wf = true) :
    Nums w w.heap.size a len (fun k => zs.getD k 0) ∧ len ≤ maxLen := by
  rcases h with ⟨rfl, rfl, rfl, rfl⟩ | ⟨x, rfl, hl, hm, hz, hc, hw⟩
  · exact ⟨fun k hk => absurd hk (by omega), by simp [maxLen]⟩
  · refine ⟨fun k hk => ?_, by omega⟩
    obtain ⟨e, hb, h⟩ := add_none (hc k (by omega)) ⟨_, hc 0 (by omega)⟩
    refine ⟨x.block, x.off, congrArg some e, hb, h, ?_⟩
    have hk' : k < zs.length := by omega
    have hg : zs.getD k 0 = zs[k] := by simp [List.getD, hk']
    have := hw _ (List.getElem_mem hk')
    simp [Lit.wf, IntKind.min, IntKind.max, IntKind.signed, IntKind.bits] at this
    show 0 ≤ zs.getD k 0
    rw [hg]
    omega
end Go.Proofs.YtndmlbepjcagiaaDoor
