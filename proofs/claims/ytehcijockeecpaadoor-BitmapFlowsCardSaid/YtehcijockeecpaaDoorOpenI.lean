/-
  Instructions that came in, as they are opened.
-/
import Derived.Test.YtehcijockeecpaaDoorHI
import Derived.Deep.Slices
import Derived.Lib.SmallJoins
import Derived.ChangeArms
namespace Go.Proofs.YtehcijockeecpaaDoor
open Go.RowKit

set_option maxRecDepth 100000 in
theorem insns_of {H : Type} {enc : TypeId × Value → H} {w : World} {base : Nat} {spare : Nat → Bool} {held : Bool} {fuel : Nat} {a : Option Addr} {l c : Nat} {x : DataW H × List MemPlace}
    (h : DataW.trod enc Tryd.prog w base spare held fuel 22 [.slice a l c] = some x) : ∃ f, Ri w w.heap.size a l f ∧ l ≤ c ∧ l ≤ maxLen := by
  rcases Go.Deep.open_slice Tryd.underlying22 h with ⟨hcs, _⟩ | ⟨p, l', c', m, n, D, Pl, hcs, _, hl, hm, hmm, _, hel⟩
  · simp at hcs
    obtain ⟨rfl, rfl, rfl⟩ := hcs
    exact ⟨fun _ => (0, 0, 0, 0), fun k hk => absurd hk (by omega), by omega, by simp [maxLen]⟩
  · simp at hcs
    obtain ⟨rfl, rfl, rfl⟩ := hcs
    have hlm : l ≤ m := by rw [hmm]; split <;> omega
    have hc4 : Tryd.prog.cellsOf 51 = 4 := by kernel_rfl
    have hu16 : Tryd.prog.cellsOf 49 = 1 := by kernel_rfl
    have hu8 : Tryd.prog.cellsOf 5 = 1 := by kernel_rfl
    have hu32 : Tryd.prog.cellsOf 23 = 1 := by kernel_rfl
    rw [hc4] at hel
    have each : ∀ i, i < l → ∃ q : Ins, (w.cell? ((p.add (i * 4)).add 0) = some (.int .u16 q.1) ∧ w.cell? ((p.add (i * 4)).add 1) = some (.int .u8 q.2.1) ∧ w.cell? ((p.add (i * 4)).add 2) = some (.int .u8 q.2.2.1) ∧ w.cell? ((p.add (i * 4)).add 3) = some (.int .u32 q.2.2.2)) ∧ insO q := by
      intro i hi
      obtain ⟨cs', h1, h2⟩ := hel i (by omega)
      obtain ⟨_, hlen, hcell⟩ := World.cells?_some h1
      obtain ⟨y0, y1, y2, y3, n', _, _, t0, t1, t2, t3⟩ := Joins.trod_struct4 Tryd.underlying51 h2
      match cs', hlen with
      | [v0, v1, v2, v3], _ =>
        simp [hu16] at t0
        simp [hu8] at t1 t2
        simp [hu32] at t3
        obtain ⟨q0, e0, _, f0⟩ := DataW.trod_int Tryd.underlying49 t0
        obtain ⟨q1, e1, _, f1⟩ := DataW.trod_int Tryd.underlying5 t1
        obtain ⟨q2, e2, _, f2⟩ := DataW.trod_int Tryd.underlying5 t2
        obtain ⟨q3, e3, _, f3⟩ := DataW.trod_int Tryd.underlying23 t3
        simp only [List.cons.injEq, and_true] at e0 e1 e2 e3
        subst e0 e1 e2 e3
        refine ⟨(q0, q1, q2, q3), ⟨by simpa using hcell 0 (by omega), by simpa using hcell 1 (by omega), by simpa using hcell 2 (by omega), by simpa using hcell 3 (by omega)⟩, ?_⟩
        simp [Lit.wf, IntKind.min, IntKind.max, IntKind.signed, IntKind.bits] at f0 f1 f2 f3
        show InsOk q0 q1 q2 q3
        constructor <;> omega
    obtain ⟨q, hq⟩ := Go.Deep.choose_lt each
    refine ⟨q, fun k hk => ?_, hl, by omega⟩
    obtain ⟨⟨e0, e1, e2, e3⟩, ho⟩ := hq k hk
    have z : w.cell? (p.add 0) = some (.int .u16 (q 0).1) := by
      have := (hq 0 (by omega)).1.1
      rw [Go.Deep.add_add] at this
      simpa using this
    rw [Go.Deep.add_add] at e0 e1 e2 e3
    obtain ⟨ea, hb, g0⟩ := add_none e0 ⟨_, z⟩
    exact ⟨p.block, p.off, congrArg some ea, hb, ⟨g0, (add_none e1 ⟨_, z⟩).2.2, (add_none e2 ⟨_, z⟩).2.2, (add_none e3 ⟨_, z⟩).2.2⟩, ho⟩
end Go.Proofs.YtehcijockeecpaaDoor
