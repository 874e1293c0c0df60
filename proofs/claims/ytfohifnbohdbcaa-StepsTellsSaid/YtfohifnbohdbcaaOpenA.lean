/-
  Opening arrays of numbers and structs by value, field by field. Plain lemmas on readings.
-/
import Derived.Test.YtfohifnbohdbcaaRows
import Derived.WalkKit
import Derived.OpenShut
import Derived.Lib.SmallJoins
namespace Go.Proofs.Ytfohifnbohdbcaa
open Go.RowKit Go.ChangeShapes Go.WideShapes

section
variable {H : Type} {enc : TypeId × Value → H} {P : Program} {w : World} {base : Nat} {spare : Nat → Bool} {held : Bool}

theorem mapM_each {α β : Type} {f : α → Option β} : ∀ {l : List α} {xs : List β}, l.mapM f = some xs → ∀ a ∈ l, ∃ b, f a = some b
  | [], _, _, a, ha => by cases ha
  | a :: l, xs, h, b, hb => by
    rw [List.mapM_cons] at h
    simp only [bind, Option.bind_eq_some_iff, pure, Option.some.injEq] at h
    obtain ⟨y, hy, ys, hys, rfl⟩ := h
    rcases List.mem_cons.1 hb with rfl | hb
    · exact ⟨y, hy⟩
    · exact mapM_each hys b hb
theorem trod_fields {t : TypeId} {fs : Array Field} {fuel : Nat} {cs : List Value} {x : DataW H × List MemPlace} (hs : P.underlying t = some (.struct fs)) (h : DataW.trod enc P w base spare held fuel t cs = some x) :
    cs.length = P.cellsOf t ∧ ∃ n, ∀ f ∈ fs.toList, ∃ y, DataW.trod enc P w base spare held n f.type ((cs.drop f.offset).take (P.cellsOf f.type)) = some y := by
  cases fuel with
  | zero => simp [DataW.trod] at h
  | succ n =>
    unfold DataW.trod at h
    rw [hs] at h
    simp only at h
    split at h
    · rename_i hl
      simp only [Option.map_eq_some_iff] at h
      obtain ⟨xs, hxs, _⟩ := h
      exact ⟨hl, n, mapM_each hxs⟩
    · cases h
theorem trod_items {t e : TypeId} {m fuel : Nat} {cs : List Value} {x : DataW H × List MemPlace} (hs : P.underlying t = some (.array m e)) (h : DataW.trod enc P w base spare held fuel t cs = some x) :
    cs.length = P.cellsOf t ∧ ∃ n, ∀ i, i < m → ∃ y, DataW.trod enc P w base spare held n e ((cs.drop (i * P.cellsOf e)).take (P.cellsOf e)) = some y := by
  cases fuel with
  | zero => simp [DataW.trod] at h
  | succ n =>
    unfold DataW.trod at h
    rw [hs] at h
    simp only at h
    split at h
    · rename_i hl
      simp only [Option.map_eq_some_iff] at h
      obtain ⟨xs, hxs, _⟩ := h
      exact ⟨hl, n, fun i hi => mapM_each hxs i (List.mem_range.2 hi)⟩
    · cases h
theorem ints_of_cells {kd : IntKind} : ∀ {cs : List Value}, (∀ i, i < cs.length → ∃ z, cs[i]? = some (.int kd z) ∧ (Lit.int kd z).wf = true) → ∃ zs : List Int, zs.length = cs.length ∧ cs = zs.map (Value.int kd) ∧ ∀ z ∈ zs, (Lit.int kd z).wf = true
  | [], _ => ⟨[], rfl, rfl, by intro z hz; cases hz⟩
  | c :: cs, hi => by
    obtain ⟨z, ez, hw⟩ := hi 0 (by simp)
    obtain ⟨zs, h1, h2, h3⟩ := ints_of_cells (cs := cs) (fun i hlt => by
      obtain ⟨z, ez, hw⟩ := hi (i + 1) (by simp; omega)
      exact ⟨z, by simpa using ez, hw⟩)
    simp only [List.getElem?_cons_zero, Option.some.injEq] at ez
    subst ez
    refine ⟨z :: zs, by simp [h1], by rw [h2]; rfl, fun y hy => ?_⟩
    rcases List.mem_cons.1 hy with rfl | hy
    · exact hw
    · exact h3 y hy
/-- The numbers of an array. -/
theorem ints_of_array {t e : TypeId} {kd : IntKind} {m fuel : Nat} {cs : List Value} {x : DataW H × List MemPlace} (hs : P.underlying t = some (.array m e)) (he : P.underlying e = some (.int kd)) (hc : P.cellsOf e = 1) (hl : cs.length = m)
    (h : DataW.trod enc P w base spare held fuel t cs = some x) : ∃ zs : List Int, zs.length = m ∧ cs = zs.map (Value.int kd) ∧ ∀ z ∈ zs, (Lit.int kd z).wf = true := by
  obtain ⟨_, n, hi⟩ := trod_items hs h
  rw [hc] at hi
  subst hl
  refine ints_of_cells fun i hlt => ?_
  obtain ⟨y, hy⟩ := hi i hlt
  obtain ⟨z, ez, _, hw⟩ := DataW.trod_int he hy
  rw [Nat.mul_one] at ez
  have : ((cs.drop i).take 1)[0]? = some (.int kd z) := by rw [ez]; rfl
  exact ⟨z, by simpa using this, hw⟩
theorem okWide_array {t e : TypeId} {m : Nat} {r : Reach} {b0 : Nat} {v : Value} (hs : P.underlying t = some (.array m e)) (h : Value.okWide P w r b0 t v) : ∃ cs, v = .agg cs ∧ cs.size = P.cellsOf t := by
  simp only [Value.okWide, hs] at h
  obtain ⟨cs, h1, h2, _⟩ := h
  exact ⟨cs, h1, h2⟩
end
end Go.Proofs.Ytfohifnbohdbcaa
