/-
  Deeds that came in, as they are opened.
-/
import Derived.Test.YteoeflainejaaaaCrF
import Derived.Deep.Slices
import Derived.Deep.Strs
import Derived.Lib.SmallJoins
import Derived.ChangeArms
import Derived.ChangeSame
namespace Go.Proofs.Yteoeflainejaaaa
open Go.RowKit

set_option maxRecDepth 100000 in
theorem deeds_of {H : Type} {enc : TypeId × Value → H} {w : World} {base : Nat} {spare : Nat → Bool} {held : Bool} {fuel : Nat} {a : Option Addr} {l c : Nat} {x : DataW H × List MemPlace}
    (h : DataW.trod enc Try.prog w base spare held fuel 37 [.slice a l c] = some x) : ∃ L, Dz w w.heap.size a L ∧ l = L.length ∧ l ≤ maxLen := by
  rcases Go.Deep.open_slice Try.underlying37 h with ⟨hcs, _⟩ | ⟨p, l', c', m, n, D, Pl, hcs, _, hl, hm, hmm, _, hel⟩
  · simp at hcs
    obtain ⟨rfl, rfl, rfl⟩ := hcs
    exact ⟨[], fun k hk => absurd hk (by simp), rfl, by simp [maxLen]⟩
  · simp at hcs
    obtain ⟨rfl, rfl, rfl⟩ := hcs
    have hlm : l ≤ m := by rw [hmm]; split <;> omega
    have hc4 : Try.prog.cellsOf 40 = 4 := by kernel_rfl
    have hci : Try.prog.cellsOf 3 = 1 := by kernel_rfl
    have hcb : Try.prog.cellsOf 4 = 1 := by kernel_rfl
    have hcf : Try.prog.cellsOf 31 = 2 := by kernel_rfl
    rw [hc4] at hel
    have each : ∀ i, i < l → ∃ q : De, w.cell? ((p.add (i * 4)).add 0) = some (.int .i64 q.1) ∧ w.cell? ((p.add (i * 4)).add 1) = some (.int .i64 q.2.1) ∧ w.cell? ((p.add (i * 4)).add 2) = some (.int .i64 q.2.2.1) ∧ w.cell? ((p.add (i * 4)).add 3) = some (.bool q.2.2.2) := by
      intro i hi
      obtain ⟨cs', h1, h2⟩ := hel i (by omega)
      obtain ⟨_, hlen, hcell⟩ := World.cells?_some h1
      obtain ⟨y0, y1, y2, n', _, _, t0, t1, t2⟩ := Go.Deep.trod_struct3 Try.underlying40 h2
      match cs', hlen with
      | [v0, v1, v2, v3], _ =>
        simp [hci] at t0 t1
        simp [hcf] at t2
        obtain ⟨z0, z1, n2, _, _, s0, s1⟩ := Go.ChangeShapes.trod_struct2 Try.underlying31 t2
        simp [hci] at s0
        simp [hcb] at s1
        obtain ⟨q0, e0, _, _⟩ := DataW.trod_int Try.underlying3 t0
        obtain ⟨q1, e1, _, _⟩ := DataW.trod_int Try.underlying3 t1
        obtain ⟨q2, e2, _, _⟩ := DataW.trod_int Try.underlying3 s0
        obtain ⟨q3, e3, _⟩ := DataW.trod_bool Try.underlying4 s1
        simp only [List.cons.injEq, and_true] at e0 e1 e2 e3
        subst e0 e1 e2 e3
        exact ⟨(q0, q1, q2, q3), by simpa using hcell 0 (by omega), by simpa using hcell 1 (by omega), by simpa using hcell 2 (by omega), by simpa using hcell 3 (by omega)⟩
    obtain ⟨q, hq⟩ := Go.Deep.choose_lt each
    refine ⟨(List.range l).map q, fun k hk => ?_, by simp, by omega⟩
    have hkl : k < l := by simpa using hk
    have e0' : ((List.range l).map q).getD k de0 = q k := by simp [List.getD, hkl]
    rw [e0']
    obtain ⟨e0, e1, e2, e3⟩ := hq k hkl
    have z : w.cell? (p.add 0) = some (.int .i64 (q 0).1) := by
      have := (hq 0 (by omega)).1
      rw [Go.Deep.add_add] at this
      simpa using this
    rw [Go.Deep.add_add] at e0 e1 e2 e3
    obtain ⟨ea, hb, g0⟩ := add_none e0 ⟨_, z⟩
    obtain ⟨_, _, g1⟩ := add_none e1 ⟨_, z⟩
    obtain ⟨_, _, g2⟩ := add_none e2 ⟨_, z⟩
    obtain ⟨_, _, g3⟩ := add_none e3 ⟨_, z⟩
    refine ⟨p.block, p.off, congrArg some ea, hb, fun j v hv => ?_⟩
    rcases j with _ | _ | _ | _ | j
    · simp [deC] at hv
      subst hv
      exact g0
    · simp [deC] at hv
      subst hv
      exact g1
    · simp [deC] at hv
      subst hv
      exact g2
    · simp [deC] at hv
      subst hv
      exact g3
    · simp [deC] at hv
end Go.Proofs.Yteoeflainejaaaa
