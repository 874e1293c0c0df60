/-
  Numbers, ids, and rows of ids that came in, as they are opened.
-/
import Derived.Test.YtjbhliabmaipbaaPiW
import Derived.Deep.SlicePairs
import Derived.Lib.SmallJoins
import Derived.ChangeArms
import Derived.ChangeSlices
namespace Go.Proofs.Ytjbhliabmaipbaa
open Go.RowKit Go.Shelf Go.ChangeShapes
set_option linter.unusedVariables false

/-- Ids in memory: Last; where Used lies, its length, its room; its numbers. -/
abbrev PidX := Int × Option Addr × Nat × Nat × List Int
def pid0 : PidX := (0, none, 0, 0, [])
def PdR (w : World) (B : Nat) (q : PidX) : Prop := Ri7 w B q.2.1 q.2.2.2.2 ∧ q.2.2.1 = q.2.2.2.2.length ∧ q.2.2.1 ≤ q.2.2.2.1
def Pds (w : World) (B : Nat) (A : Option Addr) (L : List PidX) : Prop := ∀ k, k < L.length → ∃ b off, A = some ⟨b, off, none⟩ ∧ b < B ∧ w.rangeAt b (off + k * 2) (pdC (L.getD k pid0).1 (L.getD k pid0).2.1 (L.getD k pid0).2.2.1 (L.getD k pid0).2.2.2.1).toList ∧ PdR w B (L.getD k pid0)
theorem PdR.below {w w' : World} {B B' : Nat} {q : PidX} (h : PdR w B q) (hb : Below B' w w') (hB : B ≤ B') : PdR w' B q := ⟨h.1.below hb hB, h.2⟩
theorem PdR.more {w : World} {B B' : Nat} {q : PidX} (h : PdR w B q) (hB : B ≤ B') : PdR w B' q := ⟨h.1.more hB, h.2⟩
theorem Pds.below {w w' : World} {B B' : Nat} {A : Option Addr} {L : List PidX} (h : Pds w B A L) (hb : Below B' w w') (hB : B ≤ B') : Pds w' B A L := fun k hk => by
  obtain ⟨b, off, e, h1, h2, h3⟩ := h k hk
  exact ⟨b, off, e, h1, fun j v hv => (hb.cell (p := ⟨b, off + k * 2 + j, none⟩) (Nat.lt_of_lt_of_le h1 hB)).trans (h2 j v hv), h3.below hb hB⟩
section
variable {H : Type} {enc : TypeId × Value → H} {w : World} {base : Nat} {spare : Nat → Bool} {held : Bool} {fuel : Nat} {x : DataW H × List MemPlace}
theorem zs_of {v : Value} (h : DataW.trod enc Try.prog w base spare held fuel 22 [v] = some x) : ∃ a l c zs, v = .slice a l c ∧ Ri7 w w.heap.size a zs ∧ l = zs.length ∧ l ≤ c ∧ c ≤ maxLen := by
  rcases open_ints Try.underlying22 Try.underlying3 (by kernel_rfl) h with ⟨hcs, _⟩ | ⟨p, l', c', zs, hcs, _, hl, hm, hz, _, hcell, hwz⟩
  · simp at hcs
    exact ⟨none, 0, 0, [], hcs, fun k hk => absurd hk (by simp), rfl, by omega, by simp [maxLen]⟩
  · simp at hcs
    have hlz : l' ≤ zs.length := by rw [hz]; split <;> omega
    refine ⟨some p, l', c', zs.take l', hcs, fun k hk => ?_, by rw [List.length_take]; omega, hl, hm⟩
    rw [List.length_take] at hk
    obtain ⟨e, hb, h⟩ := add_none (hcell k (by omega)) ⟨_, hcell 0 (by omega)⟩
    refine ⟨p.block, p.off, congrArg some e, hb, h.trans ?_⟩
    simp [List.getD, show k < l' by omega]
set_option maxRecDepth 100000 in
theorem pids_of {a : Option Addr} {l c : Nat} (h : DataW.trod enc Try.prog w base spare held fuel 35 [.slice a l c] = some x) : ∃ L, Pds w w.heap.size a L ∧ l = L.length ∧ l ≤ c ∧ c ≤ maxLen := by
  rcases Go.Deep.open_slice_pairs Try.underlying35 Try.underlying24 (by kernel_rfl) rfl rfl (by kernel_rfl) (by kernel_rfl) h with ⟨hcs, _⟩ | ⟨p, l', c', m, n, V0, V1, D0, D1, P0, P1, hcs, _, hl, hm, hmm, _, hel⟩
  · simp at hcs
    obtain ⟨rfl, rfl, rfl⟩ := hcs
    exact ⟨[], fun k hk => absurd hk (by simp), rfl, by omega, by simp [maxLen]⟩
  · simp at hcs
    obtain ⟨rfl, rfl, rfl⟩ := hcs
    have hlm : l ≤ m := by rw [hmm]; split <;> omega
    have each : ∀ i, i < l → ∃ q : PidX, w.cell? (p.add (i * 2)) = some (.int .i64 q.1) ∧ w.cell? (p.add (i * 2 + 1)) = some (.slice q.2.1 q.2.2.1 q.2.2.2.1) ∧ PdR w w.heap.size q := by
      intro i hi
      obtain ⟨c0, c1, t0, t1⟩ := hel i (by omega)
      obtain ⟨z, ex0, _, _⟩ := DataW.trod_int Try.underlying3 t0
      obtain ⟨b, l2, c2, zs, ex1, r, e, f, _⟩ := zs_of t1
      simp only [List.cons.injEq, and_true] at ex0
      rw [ex0] at c0
      rw [ex1] at c1
      exact ⟨(z, b, l2, c2, zs), c0, c1, r, e, f⟩
    obtain ⟨q, hq⟩ := Go.Deep.choose_lt each
    have hz : 0 < l → ∃ v0, w.cell? (p.add 0) = some v0 := fun h0 => ⟨_, by have := (hq 0 h0).1; rwa [Nat.zero_mul] at this⟩
    refine ⟨(List.range l).map q, fun k hk => ?_, by simp, hl, hm⟩
    have hkl : k < l := by simpa using hk
    have e0 : ((List.range l).map q).getD k pid0 = q k := by simp [List.getD, hkl]
    rw [e0]
    obtain ⟨c0, c1, hr⟩ := hq k hkl
    obtain ⟨ea, hb, g0⟩ := add_none c0 (hz (by omega))
    obtain ⟨_, _, g1⟩ := add_none c1 (hz (by omega))
    refine ⟨p.block, p.off, congrArg some ea, hb, fun j v hv => ?_, hr⟩
    rcases j with _ | _ | j
    · simp [pdC] at hv
      subst hv
      exact g0
    · simp [pdC] at hv
      subst hv
      exact g1
    · simp [pdC] at hv
end
end Go.Proofs.Ytjbhliabmaipbaa
