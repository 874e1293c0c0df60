/-
  Instructions in memory: a slice that reads as instructions, the call's own ones.
-/
import Derived.Test.YtceeinljakcdkaaDoorForm1
import Derived.Test.YtceeinljakcdkaaDoorOwnH
import Derived.Lib.Hide
namespace Go.Proofs.YtceeinljakcdkaaDoor
open Go.RowKit

/-- Its numbers are as wide as their kinds. -/
structure InsOk (c a b k : Int) : Prop where
  c0 : 0 ≤ c
  c1 : c ≤ 65535
  a0 : 0 ≤ a
  a1 : a ≤ 255
  b0 : 0 ≤ b
  b1 : b ≤ 255
  k0 : 0 ≤ k
  k1 : k ≤ 4294967295
/-- An instruction's numbers. -/
abbrev Ins := Int × Int × Int × Int
def insO (x : Ins) : Prop := InsOk x.1 x.2.1 x.2.2.1 x.2.2.2
def valI (x : Ins) : Value := insV x.1 x.2.1 x.2.2.1 x.2.2.2
/-- The slice reads as these instructions; they lie below block B. -/
def Ri (w : World) (B : Nat) (A : Option Addr) (n : Nat) (f : Nat → Ins) : Prop := ∀ k, k < n → ∃ b off, A = some ⟨b, off, none⟩ ∧ b < B ∧
  (w.cell? ⟨b, off + k * 4, none⟩ = some (.int .u16 (f k).1) ∧ w.cell? ⟨b, off + k * 4 + 1, none⟩ = some (.int .u8 (f k).2.1) ∧ w.cell? ⟨b, off + k * 4 + 2, none⟩ = some (.int .u8 (f k).2.2.1) ∧ w.cell? ⟨b, off + k * 4 + 3, none⟩ = some (.int .u32 (f k).2.2.2)) ∧ insO (f k)
theorem Ri.below {w w' : World} {B B' n : Nat} {A : Option Addr} {f : Nat → Ins} (h : Ri w B A n f) (hb : Below B' w w') (hB : B ≤ B') : Ri w' B A n f := fun k hk => by
  obtain ⟨b, off, e, h1, ⟨c0, c1, c2, c3⟩, ho⟩ := h k hk
  have hlt := Nat.lt_of_lt_of_le h1 hB
  exact ⟨b, off, e, h1, ⟨(hb.cell (p := ⟨b, off + k * 4, none⟩) hlt).trans c0, (hb.cell (p := ⟨b, off + k * 4 + 1, none⟩) hlt).trans c1, (hb.cell (p := ⟨b, off + k * 4 + 2, none⟩) hlt).trans c2, (hb.cell (p := ⟨b, off + k * 4 + 3, none⟩) hlt).trans c3⟩, ho⟩
theorem Ri.more {w : World} {B B' n : Nat} {A : Option Addr} {f : Nat → Ins} (h : Ri w B A n f) (hB : B ≤ B') : Ri w B' A n f := fun k hk => by
  obtain ⟨b, off, e, h1, r⟩ := h k hk
  exact ⟨b, off, e, by omega, r⟩
def celI (x : Ins) : List Value := [.int .u16 x.1, .int .u8 x.2.1, .int .u8 x.2.2.1, .int .u32 x.2.2.2]
theorem cel_one (x : Ins) : ∀ u ∈ celI x, u.oneCell' = true := by
  intro u hu
  simp only [celI, List.mem_cons, List.not_mem_nil, or_false] at hu
  rcases hu with rfl | rfl | rfl | rfl <;> rfl
theorem insn_info : (Tryd.prog.info? 32).map (fun i => (i.zero, i.size, i.bytes)) = some (some (.agg #[.int .u16 0, .int .u8 0, .int .u8 0, .int .u32 0]), 4, 8) := by kernel_rfl
theorem cel_flat_len (f : Nat → Ins) (m : Nat) : ((List.range m).flatMap fun k => celI (f k)).length = m * 4 := by
  induction m with
  | zero => rfl
  | succ m ih => rw [List.range_succ, List.flatMap_append, List.length_append, ih]; simp [celI]; omega
theorem cel_flat_get (f : Nat → Ins) (m k : Nat) (hk : k < m) : ((List.range m).flatMap fun k => celI (f k))[k * 4]? = some (.int .u16 (f k).1) ∧ ((List.range m).flatMap fun k => celI (f k))[k * 4 + 1]? = some (.int .u8 (f k).2.1) ∧
    ((List.range m).flatMap fun k => celI (f k))[k * 4 + 2]? = some (.int .u8 (f k).2.2.1) ∧ ((List.range m).flatMap fun k => celI (f k))[k * 4 + 3]? = some (.int .u32 (f k).2.2.2) := by
  induction m with
  | zero => omega
  | succ m ih =>
    have hl := cel_flat_len f m
    rw [List.range_succ, List.flatMap_append]
    rcases Nat.lt_or_ge k m with h | h
    · obtain ⟨a, b, c, d⟩ := ih h
      rw [List.getElem?_append_left (by omega), List.getElem?_append_left (by omega), List.getElem?_append_left (by omega), List.getElem?_append_left (by omega)]
      exact ⟨a, b, c, d⟩
    · obtain rfl : k = m := by omega
      rw [List.getElem?_append_right (by omega), List.getElem?_append_right (by omega), List.getElem?_append_right (by omega), List.getElem?_append_right (by omega), hl]
      simp [celI]
/-- The call's own instructions, as they are read. -/
theorem ri_of_own {w : World} {base m c : Nat} {A : Option Addr} {f : Nat → Ins} (h : w.ownsRow base 32 4 (.slice A m c) m ((List.range m).flatMap fun k => celI (f k))) (hf : ∀ k, k < m → insO (f k)) : Ri w w.heap.size A m f ∧ m ≤ c := by
  refine ⟨fun k hk => ?_, ?_⟩
  · obtain ⟨g, c', hv, hg, hcs⟩ := own_head h (by omega)
    injection hv with hA _ _
    obtain ⟨a, b, cc, d⟩ := cel_flat_get f m k hk
    refine ⟨g, 0, hA, hg, ⟨?_, ?_, ?_, ?_⟩, hf k hk⟩
    · rw [Nat.zero_add]; exact hcs _ _ a
    · rw [Nat.zero_add]; exact hcs _ _ b
    · rw [Nat.zero_add]; exact hcs _ _ cc
    · rw [Nat.zero_add]; exact hcs _ _ d
  · rcases h.2 with ⟨hv, h0⟩ | ⟨g, cap, cur, hv, _, _, hnc, _⟩
    · omega
    · injection hv with _ _ h3
      omega
/-- Appending what came in to an empty slice of the call's own. -/
theorem run_few {w : World} (ty : TypeId) (g : Nat) (hg : w.heap[g]? = some (.cells #[] 32 (0, 0))) (A : Option Addr) (B m c : Nat) (f : Nat → Ins) (hA : Ri w B A m f) (hm : m ≤ 300) :
    ∃ A'' c'' w', (Builtin.append_ #[24, 24] ty #[.slice (some ⟨g, 0, none⟩) 0 0, .slice A m c]).run Tryd.prog w = .ok (.slice A'' m c'') w' ∧ w'.ownsRow g 32 4 (.slice A'' m c'') m ((List.range m).flatMap fun k => celI (f k)) ∧ Below g w w' := by
  obtain ⟨i, hi, hz, hs1, hb1⟩ := info_parts insn_info
  have hown : w.ownsRow g 32 4 (.slice (some ⟨g, 0, none⟩) 0 0) 0 [] := ⟨rfl, .inr ⟨g, 0, #[], rfl, Nat.le_refl _, hg, Nat.le_refl _, by simp [maxLen], rfl, rfl⟩⟩
  have hlt : g < w.heap.size := (Array.getElem?_eq_some_iff.1 hg).1
  rcases Nat.eq_zero_or_pos m with rfl | hp
  · refine ⟨some ⟨g, 0, none⟩, 0, w, ?_, hown, Below.refl _ _⟩
    cases A <;> simp [Builtin.append_, run_underlying Tryd.underlying24, sizeOf, typeInfo, hi, Builtin.lenOf, Builtin.firstCells, storeCells, loadCells, loadCellsFrom]
  · obtain ⟨b, off, rfl, _⟩ := hA 0 hp
    have hcell : ∀ j u, ((List.range m).flatMap fun k => celI (f k))[j]? = some u → w.cell? ((⟨b, off, none⟩ : Addr).add j) = some u := by
      intro j u hj
      have hl := cel_flat_len f m
      have hjl : j < m * 4 := by
        rcases Nat.lt_or_ge j (m * 4) with h | h
        · exact h
        · rw [List.getElem?_eq_none (by omega)] at hj; cases hj
      have ea : (⟨b, off, none⟩ : Addr).add j = ⟨b, off + j, none⟩ := by
        unfold Addr.add
        by_cases h0 : j = 0 <;> simp [h0]
      obtain ⟨b', off', e, _, ⟨c0, c1, c2, c3⟩, _⟩ := hA (j / 4) (by omega)
      cases e
      obtain ⟨a0, a1, a2, a3⟩ := cel_flat_get f m (j / 4) (by omega)
      rw [ea]
      have hd : j = j / 4 * 4 ∨ j = j / 4 * 4 + 1 ∨ j = j / 4 * 4 + 2 ∨ j = j / 4 * 4 + 3 := by omega
      rcases hd with h | h | h | h
      · rw [h, a0] at hj; rw [h, ← hj]; exact c0
      · rw [h, a1] at hj; rw [h, ← hj, ← Nat.add_assoc]; exact c1
      · rw [h, a2] at hj; rw [h, ← hj, ← Nat.add_assoc]; exact c2
      · rw [h, a3] at hj; rw [h, ← hj, ← Nat.add_assoc]; exact c3
    obtain ⟨v', w', hrun, h2, h3, _, _⟩ := run_append_own_at (P := Tryd.prog) w g 24 ty 32 i _ 4 8 Tryd.underlying24 hi hz hs1 hb1 rfl (by decide) _ 0 [] hown ⟨b, off, none⟩ m c ((List.range m).flatMap fun k => celI (f k)) (cel_flat_len f m) hcell
      (by intro u hu; obtain ⟨k, _, hk⟩ := List.mem_flatMap.1 hu; exact cel_one _ u hk) (by simp only [maxLen]; omega) (by omega) (Nat.le_of_lt hlt)
    rw [Nat.zero_add] at h2
    obtain ⟨A'', c'', rfl⟩ := own_slice h2
    exact ⟨A'', c'', w', hrun, by simpa using h2, (Below.refl _ _).grown h3 (Nat.le_of_lt hlt) fun k hk => (hown.lt k hk).1⟩
theorem wpList_few {w : World} {ops : Array Oper} {rest : List Oper} {o : Oper} {a : Act} {Q : Exit → Act → World → Prop} (hgd : o.guard = none) (s x : Operand)
    (ho : o.op = .call { callee := .builtin .append, args := #[s, x], argTypes := #[24, 24] })
    (g : Nat) (hs : a.eval s = .slice (some ⟨g, 0, none⟩) 0 0) (hg : w.heap[g]? = some (.cells #[] 32 (0, 0))) (A : Option Addr) (B m c : Nat) (f : Nat → Ins) (hx : a.eval x = .slice A m c) (hA : Ri w B A m f) (hm : m ≤ 300)
    (h : ∀ A'' c'' w', w'.ownsRow g 32 4 (.slice A'' m c'') m ((List.range m).flatMap fun k => celI (f k)) → Below g w w' → wpList Tryd.prog ops Q rest (a.put o.dst (.slice A'' m c'')) w') :
    wpList Tryd.prog ops Q (o :: rest) a w := by
  refine wpList_plain hgd fun K hK => ?_
  obtain ⟨A'', c'', w', hrun, h1, h2⟩ := run_few o.type g hg A B m c f hA hm
  unfold Oper.wp execOp
  simp only [ho, resolve, invoke, builtin, Sem.run_bind, Sem.run_pure, Result.andThen_ok, List.map_toArray, List.map_cons, List.map_nil, hs, hx, hrun]
  exact hK _ _ (h A'' c'' w' h1 h2)
theorem Ri.short {w : World} {B n m : Nat} {A : Option Addr} {f : Nat → Ins} (h : Ri w B A n f) (hm : m ≤ n) : Ri w B A m f := fun k hk => h k (by omega)
theorem Ri.ok {w : World} {B n : Nat} {A : Option Addr} {f : Nat → Ins} (h : Ri w B A n f) : ∀ k, k < n → insO (f k) := fun k hk => by
  obtain ⟨_, _, _, _, _, ho⟩ := h k hk
  exact ho
end Go.Proofs.YtceeinljakcdkaaDoor
