/-
  Opening a slice of slices of bytes.
-/
import Derived.Test.YtndmlbepjcagiaaDoorDecW
import Derived.Deep.Matrix
namespace Go.Proofs.YtndmlbepjcagiaaDoor
open Go.RowKit Go.ChangeShapes Go.WideShapes

theorem spot_none {w : World} {x : Addr} {r : Nat} {u v : Value} (h : w.cell? (x.add r) = some u) (h0 : w.cell? (x.add 0) = some v) : x = ⟨x.block, x.off, none⟩ ∧ x.block < w.heap.size ∧ w.cell? ⟨x.block, x.off + r, none⟩ = some u := by
  obtain ⟨b, off, spot⟩ := x
  have hspot : spot = none := by simpa [Addr.add] using World.cell?_spot h0
  subst hspot
  refine ⟨rfl, ?_, ?_⟩
  · have := World.block_lt_of_cell? w _ h0
    simpa [Addr.add] using this
  · rw [add_at] at h
    exact h
theorem rows_of {H : Type} {enc : TypeId × Value → H} {w : World} {base : Nat} {held : Bool} {fuel : Nat} {x : DataW H × List MemPlace} {a : Option Addr} {l c : Nat}
    (h : DataW.trod enc Tryd.prog w base (fun _ => true) held fuel 52 [.slice a l c] = some x) : ∃ R, RowsB w w.heap.size a l R ∧ l ≤ 9223372036854775807 := by
  rcases Go.Deep.open_int_rows Tryd.underlying52 Tryd.underlying39 Tryd.underlying5 (by kernel_rfl) (by kernel_rfl) h with ⟨hcs, _⟩ | ⟨ad, len, cap, A, L, C, Z, hcs, _, hl, hm, _, hr⟩
  · simp only [List.cons.injEq, Value.slice.injEq, and_true] at hcs
    obtain ⟨rfl, rfl, rfl⟩ := hcs
    exact ⟨fun _ => (none, 0, 0, []), fun k hk => absurd hk (by omega), by omega⟩
  · simp only [List.cons.injEq, Value.slice.injEq, and_true] at hcs
    obtain ⟨rfl, rfl, rfl⟩ := hcs
    unfold maxLen at hm
    refine ⟨fun k => (A k, L k, C k, (Z k).take (L k)), fun k hk => ?_, by omega⟩
    obtain ⟨hc, h1, h2, h3, h4, h5, h6⟩ := hr k (by omega)
    obtain ⟨hc0, _⟩ := hr 0 (by omega)
    obtain ⟨e, hb, hcell⟩ := spot_none hc hc0
    refine ⟨ad.block, ad.off, congrArg some e, hb, hcell, ?_, h1, ?_⟩
    · show Rd w w.heap.size (A k) (L k) ((Z k).take (L k))
      refine rd_of_row (cap := C k) ?_
      cases hA : A k with
      | none =>
        have hC := h5 hA
        exact .inl ⟨rfl, by omega, hC, List.eq_nil_of_length_eq_zero (by omega)⟩
      | some a' =>
        obtain ⟨_, hcs⟩ := h6 a' hA
        exact .inr ⟨a', rfl, h1, h2, h3, fun i hi => hcs i (by omega), h4⟩
    · show L k ≤ _
      unfold maxLen at h2
      omega
end Go.Proofs.YtndmlbepjcagiaaDoor
