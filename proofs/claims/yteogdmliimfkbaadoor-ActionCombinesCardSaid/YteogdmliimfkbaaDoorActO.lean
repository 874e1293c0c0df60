/-
  Words, numbers, texts, verdicts that came in, as they are opened.
-/
import Derived.Test.YteogdmliimfkbaaDoorActE
import Derived.Deep.Slices
import Derived.Deep.Strs
import Derived.Lib.SmallJoins
import Derived.ChangeArms
namespace Go.Proofs.YteogdmliimfkbaaDoor
open Go.RowKit Go.ChangeShapes

/-- The slice reads as these numbers. -/
def Nums (w : World) (B : Nat) (A : Option Addr) (n : Nat) (f : Nat → Int) : Prop := ∀ k, k < n → ∃ b off, A = some ⟨b, off, none⟩ ∧ b < B ∧ w.cell? ⟨b, off + k, none⟩ = some (.int .i64 (f k))
/-- .. as these texts. -/
def Txts (w : World) (B : Nat) (A : Option Addr) (n : Nat) (f : Nat → ByteArray) : Prop := ∀ k, k < n → ∃ b off, A = some ⟨b, off, none⟩ ∧ b < B ∧ w.cell? ⟨b, off + k, none⟩ = some (.string (f k)) ∧ (f k).size ≤ maxLen
/-- .. as these verdicts. -/
def Vers (w : World) (B : Nat) (A : Option Addr) (n : Nat) (f : Nat → Int × Int) : Prop := ∀ k, k < n → ∃ b off, A = some ⟨b, off, none⟩ ∧ b < B ∧ (w.cell? ⟨b, off + k * 2, none⟩ = some (.int .i64 (f k).1) ∧ w.cell? ⟨b, off + k * 2 + 1, none⟩ = some (.int .u16 (f k).2)) ∧ 0 ≤ (f k).2 ∧ (f k).2 < 65536
section
variable {w w' : World} {B B' n : Nat} {A : Option Addr}
theorem Nums.below {f : Nat → Int} (h : Nums w B A n f) (hb : Below B' w w') (hB : B ≤ B') : Nums w' B A n f := fun k hk => by
  obtain ⟨b, off, e, h1, c⟩ := h k hk
  exact ⟨b, off, e, h1, (hb.cell (p := ⟨b, off + k, none⟩) (Nat.lt_of_lt_of_le h1 hB)).trans c⟩
theorem Txts.below {f : Nat → ByteArray} (h : Txts w B A n f) (hb : Below B' w w') (hB : B ≤ B') : Txts w' B A n f := fun k hk => by
  obtain ⟨b, off, e, h1, c, hs⟩ := h k hk
  exact ⟨b, off, e, h1, (hb.cell (p := ⟨b, off + k, none⟩) (Nat.lt_of_lt_of_le h1 hB)).trans c, hs⟩
theorem Vers.below {f : Nat → Int × Int} (h : Vers w B A n f) (hb : Below B' w w') (hB : B ≤ B') : Vers w' B A n f := fun k hk => by
  obtain ⟨b, off, e, h1, ⟨c1, c2⟩, hs⟩ := h k hk
  exact ⟨b, off, e, h1, ⟨(hb.cell (p := ⟨b, off + k * 2, none⟩) (Nat.lt_of_lt_of_le h1 hB)).trans c1, (hb.cell (p := ⟨b, off + k * 2 + 1, none⟩) (Nat.lt_of_lt_of_le h1 hB)).trans c2⟩, hs⟩
end
section
variable {H : Type} {enc : TypeId × Value → H} {w : World} {base : Nat} {spare : Nat → Bool} {held : Bool} {fuel : Nat} {a : Option Addr} {l c : Nat} {x : DataW H × List MemPlace}
theorem words_of (h : DataW.trod enc Tryd.prog w base spare held fuel 22 [.slice a l c] = some x) : ∃ zs : List Int, Ru w w.heap.size a zs ∧ l = zs.length ∧ l ≤ c ∧ c ≤ maxLen := by
  rcases open_ints Tryd.underlying22 Tryd.underlying26 (by kernel_rfl) h with ⟨hcs, _⟩ | ⟨p, l', c', zs, hcs, _, hl, hm, hz, _, hcell, hwz⟩
  · simp at hcs
    obtain ⟨rfl, rfl, rfl⟩ := hcs
    exact ⟨[], ⟨by simp, fun k hk => absurd hk (by simp)⟩, rfl, by omega, by simp [maxLen]⟩
  · simp at hcs
    obtain ⟨rfl, rfl, rfl⟩ := hcs
    have hlz : l ≤ zs.length := by rw [hz]; split <;> omega
    refine ⟨zs.take l, ⟨fun z hz' => ?_, fun k hk => ?_⟩, by rw [List.length_take]; omega, hl, hm⟩
    · have := hwz z (List.mem_of_mem_take hz')
      simp [Lit.wf, IntKind.min, IntKind.max, IntKind.signed, IntKind.bits] at this
      omega
    · rw [List.length_take] at hk
      obtain ⟨e, hb, h⟩ := add_none (hcell k (by omega)) ⟨_, hcell 0 (by omega)⟩
      refine ⟨p.block, p.off, congrArg some e, hb, h.trans ?_⟩
      simp [List.getD, show k < l by omega]
theorem nums_of (h : DataW.trod enc Tryd.prog w base spare held fuel 38 [.slice a l c] = some x) : ∃ f, Nums w w.heap.size a l f ∧ l ≤ 9223372036854775807 := by
  rcases open_ints Tryd.underlying38 Tryd.underlying3 (by kernel_rfl) h with ⟨hcs, _⟩ | ⟨p, l', c', zs, hcs, _, hl, hm, hz, _, hcell, hwz⟩
  · simp at hcs
    obtain ⟨rfl, rfl, rfl⟩ := hcs
    exact ⟨fun _ => 0, fun k hk => absurd hk (by simp), by omega⟩
  · simp at hcs
    obtain ⟨rfl, rfl, rfl⟩ := hcs
    unfold maxLen at hm
    have hlz : l ≤ zs.length := by rw [hz]; split <;> omega
    refine ⟨fun k => zs.getD k 0, fun k hk => ?_, by omega⟩
    obtain ⟨e, hb, h⟩ := add_none (hcell k (by omega)) ⟨_, hcell 0 (by omega)⟩
    exact ⟨p.block, p.off, congrArg some e, hb, h⟩
theorem vers_of (h : DataW.trod enc Tryd.prog w base spare held fuel 23 [.slice a l c] = some x) : ∃ f, Vers w w.heap.size a l f ∧ l ≤ 9223372036854775807 := by
  rcases Go.Deep.open_slice Tryd.underlying23 h with ⟨hcs, _⟩ | ⟨p, l', c', m, n, D, Pl, hcs, _, hl, hm, hmm, _, hel⟩
  · simp at hcs
    obtain ⟨rfl, rfl, rfl⟩ := hcs
    exact ⟨fun _ => (0, 0), fun k hk => absurd hk (by omega), by omega⟩
  · simp at hcs
    obtain ⟨rfl, rfl, rfl⟩ := hcs
    unfold maxLen at hm
    have hlm : l ≤ m := by rw [hmm]; split <;> omega
    have hc2 : Tryd.prog.cellsOf 29 = 2 := by kernel_rfl
    have hu16 : Tryd.prog.cellsOf 27 = 1 := by kernel_rfl
    have hint : Tryd.prog.cellsOf 3 = 1 := by kernel_rfl
    rw [hc2] at hel
    have each : ∀ i, i < l → ∃ q : Int × Int, (w.cell? ((p.add (i * 2)).add 0) = some (.int .i64 q.1) ∧ w.cell? ((p.add (i * 2)).add 1) = some (.int .u16 q.2)) ∧ 0 ≤ q.2 ∧ q.2 < 65536 := by
      intro i hi
      obtain ⟨cs', h1, h2⟩ := hel i (by omega)
      obtain ⟨_, hlen, hcell⟩ := World.cells?_some h1
      obtain ⟨y0, y1, n', _, _, t0, t1⟩ := trod_struct2 Tryd.underlying29 h2
      match cs', hlen with
      | [v0, v1], _ =>
        simp [hint] at t0
        simp [hu16] at t1
        obtain ⟨q0, e0, _, f0⟩ := DataW.trod_int Tryd.underlying3 t0
        obtain ⟨q1, e1, _, f1⟩ := DataW.trod_int Tryd.underlying27 t1
        simp only [List.cons.injEq, and_true] at e0 e1
        subst e0 e1
        refine ⟨(q0, q1), ⟨by simpa using hcell 0 (by omega), by simpa using hcell 1 (by omega)⟩, ?_⟩
        simp [Lit.wf, IntKind.min, IntKind.max, IntKind.signed, IntKind.bits] at f1
        show 0 ≤ q1 ∧ q1 < 65536
        omega
    obtain ⟨q, hq⟩ := Go.Deep.choose_lt each
    refine ⟨q, fun k hk => ?_, by omega⟩
    obtain ⟨⟨e0, e1⟩, ho⟩ := hq k hk
    have z : w.cell? (p.add 0) = some (.int .i64 (q 0).1) := by
      have := (hq 0 (by omega)).1.1
      rw [Go.Deep.add_add] at this
      simpa using this
    rw [Go.Deep.add_add] at e0 e1
    obtain ⟨ea, hb, g0⟩ := add_none e0 ⟨_, z⟩
    exact ⟨p.block, p.off, congrArg some ea, hb, ⟨g0, (add_none e1 ⟨_, z⟩).2.2⟩, ho⟩
end
end Go.Proofs.YteogdmliimfkbaaDoor
