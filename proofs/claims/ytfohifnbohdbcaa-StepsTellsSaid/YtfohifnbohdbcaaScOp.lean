/-
  Schedules that came in, as they are opened; two numbers.
-/
import Derived.Test.YtfohifnbohdbcaaScOv
import Derived.Test.YtfohifnbohdbcaaOpenA
import Derived.Deep.Slices
import Derived.Deep.Strs
import Derived.Lib.SmallJoins
import Derived.ChangeArms
import Derived.ChangeSlices
import Derived.ChangeSame
namespace Go.Proofs.Ytfohifnbohdbcaa
open Go.RowKit Go.Shelf Go.ChangeShapes Go.WideShapes
set_option linter.unusedVariables false
set_option linter.unusedSimpArgs false

section
variable {H : Type} {enc : TypeId × Value → H} {w : World} {base : Nat} {spare : Nat → Bool} {held : Bool} {fuel : Nat} {x : DataW H × List MemPlace}
theorem ints_ofS {v : Value} (h : DataW.trod enc Try.prog w base spare held fuel 40 [v] = some x) : ∃ a l c zs, v = .slice a l c ∧ Ri7 w w.heap.size a zs ∧ l = zs.length ∧ l ≤ c ∧ c ≤ maxLen := by
  rcases open_ints Try.underlying40 Try.underlying3 (by kernel_rfl) h with ⟨hcs, _⟩ | ⟨p, l', c', zs, hcs, _, hl, hm, hz, _, hcell, hwz⟩
  · simp at hcs
    exact ⟨none, 0, 0, [], hcs, fun k hk => absurd hk (by simp), rfl, by omega, by simp [maxLen]⟩
  · simp at hcs
    have hlz : l' ≤ zs.length := by rw [hz]; split <;> omega
    refine ⟨some p, l', c', zs.take l', hcs, fun k hk => ?_, by rw [List.length_take]; omega, hl, hm⟩
    rw [List.length_take] at hk
    obtain ⟨e, hb, h⟩ := add_none (hcell k (by omega)) ⟨_, hcell 0 (by omega)⟩
    refine ⟨p.block, p.off, congrArg some e, hb, h.trans ?_⟩
    simp [List.getD, show k < l' by omega]
set_option maxRecDepth 100000 in
theorem runs_of {v : Value} (h : DataW.trod enc Try.prog w base spare held fuel 22 [v] = some x) : ∃ a l c L, v = .slice a l c ∧ RsR w w.heap.size a L ∧ l = L.length ∧ l ≤ maxLen := by
  rcases Go.Deep.open_slice Try.underlying22 h with ⟨hcs, _⟩ | ⟨p, l, c', m, n, D, Pl, hcs, _, hl, hm, hmm, _, hel⟩
  · simp at hcs
    exact ⟨none, 0, 0, [], hcs, fun k hk => absurd hk (by simp), rfl, by simp [maxLen]⟩
  · simp at hcs
    have hlm : l ≤ m := by rw [hmm]; split <;> omega
    have hc4 : Try.prog.cellsOf 52 = 3 := by kernel_rfl
    have hci : Try.prog.cellsOf 3 = 1 := by kernel_rfl
    rw [hc4] at hel
    have each : ∀ i, i < l → ∃ q : Rn, (∀ j v, (rnC q).toList[j]? = some v → w.cell? ((p.add (i * 3)).add j) = some v) := by
      intro i hi
      obtain ⟨cs', h1, h2⟩ := hel i (by omega)
      obtain ⟨_, hlen, hcell⟩ := World.cells?_some h1
      obtain ⟨y0, y1, y2, n', _, _, t0, t1, t2⟩ := Go.Deep.trod_struct3 Try.underlying52 h2
      match cs', hlen with
      | [v0, v1, v2], _ =>
        simp [hci] at t0 t1 t2
        obtain ⟨q0, e0, _, f0⟩ := DataW.trod_int Try.underlying3 t0
        obtain ⟨q1, e1, _, f1⟩ := DataW.trod_int Try.underlying3 t1
        obtain ⟨q2, e2, _, f2⟩ := DataW.trod_int Try.underlying3 t2
        simp only [List.cons.injEq, and_true] at e0 e1 e2
        subst e0 e1 e2
        refine ⟨⟨q0, q1, q2⟩, fun j v hv => ?_⟩
        have hj : j < 3 := by
          rcases Nat.lt_or_ge j 3 with h | h
          · exact h
          · rw [List.getElem?_eq_none (by rw [Array.length_toList, rn_size]; exact h)] at hv; cases hv
        have := hcell j (by omega)
        rw [this]
        exact hv
    haveI : Inhabited Rn := ⟨rn0⟩
    obtain ⟨q, hq⟩ := Go.Deep.choose_lt each
    refine ⟨some p, l, c', (List.range l).map q, hcs, fun k hk => ?_, by simp, by omega⟩
    have hkl : k < l := by simpa using hk
    have e0 : ((List.range l).map q).getD k rn0 = q k := by simp [List.getD, hkl]
    rw [e0]
    have z : ∃ v0, w.cell? (p.add 0) = some v0 := ⟨_, by
      have := (hq 0 (by omega)) 0 (.int .i64 (q 0).i) rfl
      rw [Go.Deep.add_add] at this
      simpa using this⟩
    have a0 := (hq k hkl) 0 (.int .i64 (q k).i) rfl
    rw [Go.Deep.add_add] at a0
    obtain ⟨ea, hb, _⟩ := add_none a0 z
    refine ⟨p.block, p.off, congrArg some ea, hb, fun j v hv => ?_⟩
    have := (hq k hkl) j v hv
    rw [Go.Deep.add_add] at this
    have h3 := (add_none this z).2.2
    rwa [← Nat.add_assoc] at h3
set_option maxRecDepth 100000 in
theorem locks_of {v : Value} (h : DataW.trod enc Try.prog w base spare held fuel 23 [v] = some x) : ∃ a l c L, v = .slice a l c ∧ RsK w w.heap.size a L ∧ (∀ y ∈ L, Ri7 w w.heap.size y.2.1 y.1.q ∧ y.1.q.length ≤ y.2.2) ∧ l = L.length ∧ l ≤ maxLen := by
  rcases Go.Deep.open_slice Try.underlying23 h with ⟨hcs, _⟩ | ⟨p, l, c', m, n, D, Pl, hcs, _, hl, hm, hmm, _, hel⟩
  · simp at hcs
    exact ⟨none, 0, 0, [], hcs, fun k hk => absurd hk (by simp), fun y hy => (by cases hy), rfl, by simp [maxLen]⟩
  · simp at hcs
    have hlm : l ≤ m := by rw [hmm]; split <;> omega
    have hc4 : Try.prog.cellsOf 48 = 3 := by kernel_rfl
    have hci : Try.prog.cellsOf 3 = 1 := by kernel_rfl
    have hcs' : Try.prog.cellsOf 40 = 1 := by kernel_rfl
    rw [hc4] at hel
    have each : ∀ i, i < l → ∃ q : Kw, (∀ j v, (kwC q).toList[j]? = some v → w.cell? ((p.add (i * 3)).add j) = some v) ∧ (Ri7 w w.heap.size q.2.1 q.1.q ∧ q.1.q.length ≤ q.2.2) := by
      intro i hi
      obtain ⟨cs', h1, h2⟩ := hel i (by omega)
      obtain ⟨_, hlen, hcell⟩ := World.cells?_some h1
      obtain ⟨y0, y1, y2, n', _, _, t0, t1, t2⟩ := Go.Deep.trod_struct3 Try.underlying48 h2
      match cs', hlen with
      | [v0, v1, v2], _ =>
        simp [hci] at t0 t1
        simp [hcs'] at t2
        obtain ⟨q0, e0, _, f0⟩ := DataW.trod_int Try.underlying3 t0
        obtain ⟨q1, e1, _, f1⟩ := DataW.trod_int Try.underlying3 t1
        obtain ⟨pa, pl, pc, g, e2, hr, hlg, hle, _⟩ := ints_ofS t2
        simp only [List.cons.injEq, and_true] at e0 e1
        subst e0 e1 e2 hlg
        refine ⟨(⟨q0, q1, g⟩, (pa, pc)), fun j v hv => ?_, hr, hle⟩
        have hj : j < 3 := by
          rcases Nat.lt_or_ge j 3 with h | h
          · exact h
          · rw [List.getElem?_eq_none (by rw [Array.length_toList, kw_size]; exact h)] at hv; cases hv
        have := hcell j (by omega)
        rw [this]
        exact hv
    haveI : Inhabited Kw := ⟨kw0⟩
    obtain ⟨q, hq⟩ := Go.Deep.choose_lt each
    refine ⟨some p, l, c', (List.range l).map q, hcs, fun k hk => ?_, fun y hy => ?_, by simp, by omega⟩
    · have hkl : k < l := by simpa using hk
      have e0 : ((List.range l).map q).getD k kw0 = q k := by simp [List.getD, hkl]
      rw [e0]
      have z : ∃ v0, w.cell? (p.add 0) = some v0 := ⟨_, by
        have := (hq 0 (by omega)).1 0 (.int .i64 (q 0).1.n) rfl
        rw [Go.Deep.add_add] at this
        simpa using this⟩
      have a0 := (hq k hkl).1 0 (.int .i64 (q k).1.n) rfl
      rw [Go.Deep.add_add] at a0
      obtain ⟨ea, hb, _⟩ := add_none a0 z
      refine ⟨p.block, p.off, congrArg some ea, hb, fun j v hv => ?_⟩
      have := (hq k hkl).1 j v hv
      rw [Go.Deep.add_add] at this
      have h3 := (add_none this z).2.2
      rwa [← Nat.add_assoc] at h3
    · obtain ⟨k, hk, rfl⟩ := List.mem_map.1 hy
      exact (hq k (by simpa using hk)).2
end
section
variable {H : Type} {enc : TypeId × Value → H} {w : World} {base : Nat} {spare : Nat → Bool} {held : Bool}
set_option maxRecDepth 100000 in
theorem sched_of {cs : Array Value} {d : DataW H} {p : List MemPlace} (hz : cs.size = Try.prog.cellsOf 25) (h : DataW.Trod enc Try.prog w base spare held 25 (.agg cs) d p) :
    ∃ A m c R A2 m2 c2 L, cs = scC A m c A2 m2 c2 ∧ ScW w w.heap.size A m c R A2 m2 c2 L := by
  obtain ⟨fuel, hf⟩ := h
  obtain ⟨y0, y1, n, _, hl, h0, h1⟩ := Go.ChangeShapes.trod_struct2 Try.underlying25 hf
  have hc2 : Try.prog.cellsOf 25 = 2 := by kernel_rfl
  have hcs : Try.prog.cellsOf 22 = 1 := by kernel_rfl
  have hcs' : Try.prog.cellsOf 23 = 1 := by kernel_rfl
  rw [hc2] at hz
  obtain ⟨v, u, rfl⟩ : ∃ v u, cs = #[v, u] := by
    obtain ⟨l⟩ := cs
    match l, hz with
    | [v, u], _ => exact ⟨v, u, rfl⟩
  simp [Value.cells, hcs] at h0
  simp [Value.cells, hcs'] at h1
  obtain ⟨a, l, c, L, rfl, r1, r2, r3⟩ := runs_of h0
  obtain ⟨a', l', c', K, rfl, s1, s2, s3, s4⟩ := locks_of h1
  exact ⟨a, l, c, L, a', l', c', K, rfl, r1, s1, s2, r2, s3, s4⟩
set_option maxRecDepth 100000 in
theorem two_ofS {r : Reach} {b0 : Nat} {v : Value} {x : DataW H} {p : List MemPlace} (hv : Value.okWide Try.prog w r b0 38 v) (h : DataW.Trod enc Try.prog w base spare held 38 v x p) :
    ∃ a b : Int, v = .agg #[.int .i64 a, .int .i64 b] ∧ (Lit.int .i64 a).wf = true ∧ (Lit.int .i64 b).wf = true := by
  obtain ⟨cs, rfl, hsz⟩ := okWide_array Try.underlying38 hv
  rw [show Try.prog.cellsOf 38 = 2 by kernel_rfl] at hsz
  obtain ⟨c0, c1, rfl⟩ : ∃ v u, cs = #[v, u] := by
    obtain ⟨l⟩ := cs
    match l, hsz with
    | [v, u], _ => exact ⟨v, u, rfl⟩
  obtain ⟨fuel, hf⟩ := h
  obtain ⟨zs, hz, e3, w3⟩ := ints_of_array Try.underlying38 Try.underlying3 (by kernel_rfl) rfl hf
  obtain ⟨a, b, rfl⟩ : ∃ a b, zs = [a, b] := by
    match zs, hz with
    | [a, b], _ => exact ⟨a, b, rfl⟩
  simp only [Value.cells, List.cons.injEq, and_true, List.map_cons, List.map_nil] at e3
  obtain ⟨rfl, rfl⟩ := e3
  exact ⟨a, b, rfl, w3 a (by simp), w3 b (by simp)⟩
end
end Go.Proofs.Ytfohifnbohdbcaa
