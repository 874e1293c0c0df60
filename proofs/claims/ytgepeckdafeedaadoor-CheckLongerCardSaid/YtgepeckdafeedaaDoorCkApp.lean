/-
  Instructions put behind an instruction of the call's own.
-/
import Derived.Test.YtgepeckdafeedaaDoorCkStore
namespace Go.Proofs.YtgepeckdafeedaaDoor
open Go.RowKit

theorem flatI_ahead (q : Ins) (f : Nat → Ins) (m : Nat) : flatI (ahead q f) (m + 1) = celI q ++ flatI f m := by
  induction m with
  | zero => simp [flatI, ahead]
  | succ m ih =>
    rw [flatI_succ (ahead q f), ih, flatI_succ f, List.append_assoc]
    rfl
theorem flatI_cell {w : World} {B m : Nat} {A : Option Addr} {f : Nat → Ins} {b off : Nat} (hA : Ri w B A m f) (hb : A = some ⟨b, off, none⟩) : ∀ j u, (flatI f m)[j]? = some u → w.cell? ((⟨b, off, none⟩ : Addr).add j) = some u := by
  intro j u hj
  have hl := flatI_len f m
  have hjl : j < m * 4 := by
    rcases Nat.lt_or_ge j (m * 4) with h | h
    · exact h
    · rw [List.getElem?_eq_none (by omega)] at hj; cases hj
  have ea : (⟨b, off, none⟩ : Addr).add j = ⟨b, off + j, none⟩ := by
    unfold Addr.add
    by_cases h0 : j = 0 <;> simp [h0]
  obtain ⟨b', off', e, _, ⟨c0, c1, c2, c3⟩, _⟩ := hA (j / 4) (by omega)
  rw [hb] at e
  cases e
  obtain ⟨a0, a1, a2, a3⟩ := cel_flat_get f m (j / 4) (by omega)
  change (flatI f m)[j / 4 * 4]? = _ at a0
  change (flatI f m)[j / 4 * 4 + 1]? = _ at a1
  change (flatI f m)[j / 4 * 4 + 2]? = _ at a2
  change (flatI f m)[j / 4 * 4 + 3]? = _ at a3
  rw [ea]
  have hd : j = j / 4 * 4 ∨ j = j / 4 * 4 + 1 ∨ j = j / 4 * 4 + 2 ∨ j = j / 4 * 4 + 3 := by omega
  rcases hd with h | h | h | h
  · rw [h, a0] at hj; rw [h, ← hj]; exact c0
  · rw [h, a1] at hj; rw [h, ← hj, ← Nat.add_assoc]; exact c1
  · rw [h, a2] at hj; rw [h, ← hj, ← Nat.add_assoc]; exact c2
  · rw [h, a3] at hj; rw [h, ← hj, ← Nat.add_assoc]; exact c3
theorem flatI_one (f : Nat → Ins) (m : Nat) : ∀ u ∈ flatI f m, u.oneCell' = true := by
  intro u hu
  obtain ⟨k, _, hk⟩ := List.mem_flatMap.1 hu
  exact cel_one _ u hk
theorem one_own (w : World) (q : Ins) : (w.alloc (.cells (celI q).toArray 42)).ownsRow w.heap.size 42 4 (.slice (some ⟨w.heap.size, 0, none⟩) 1 1) 1 (celI q) :=
  ⟨rfl, .inr ⟨w.heap.size, 1, (celI q).toArray, rfl, Nat.le_refl _, heap_alloc_new w _, Nat.le_refl _, by simp [maxLen], rfl, rfl⟩⟩

/-- Appending what is read to a row of the call's own. -/
theorem run_behind {w : World} (ty : TypeId) (base n c : Nat) (A0 : Option Addr) (xs : List Value) (hown : w.ownsRow base 42 4 (.slice A0 n c) n xs) (hbase : base ≤ w.heap.size) (hn : n ≤ 300) (A : Option Addr) (B m c' : Nat) (f : Nat → Ins) (hA : Ri w B A m f) (hm : m ≤ 300) (hA0 : A = none → m = 0) :
    ∃ A'' c'' w', (Builtin.append_ #[24, 24] ty #[.slice A0 n c, .slice A m c']).run Tryd.prog w = .ok (.slice A'' (n + m) c'') w' ∧ w'.ownsRow base 42 4 (.slice A'' (n + m) c'') (n + m) (xs ++ flatI f m) ∧ Below base w w' := by
  obtain ⟨i, hi, hz, hs1, hb1⟩ := info_parts insn_info
  cases A with
  | none =>
    obtain rfl := hA0 rfl
    have hnc : n ≤ c := by
      rcases hown.2 with ⟨hv, h0⟩ | ⟨g, cap, cur, hv, _, _, hnc, _⟩
      · omega
      · injection hv with _ _ h3
        omega
    refine ⟨A0, c, w, ?_, by simpa [flatI] using hown, Below.refl _ _⟩
    cases A0 <;> simp [Builtin.append_, run_underlying Tryd.underlying24, sizeOf, typeInfo, hi, Builtin.lenOf, Builtin.firstCells, storeCells, loadCells, hnc]
  | some ad =>
    rcases Nat.eq_zero_or_pos m with rfl | hp
    · obtain ⟨v', w', hrun, h2, h3, _, _⟩ := run_append_own_at (P := Tryd.prog) w base 24 ty 42 i _ 4 8 Tryd.underlying24 hi hz hs1 hb1 rfl (by decide) _ n xs hown ad 0 c' (flatI f 0) rfl (by intro j u hj; simp [flatI] at hj) (flatI_one f 0) (by simp only [maxLen]; omega) (by omega) hbase
      obtain ⟨A'', c'', rfl⟩ := own_slice h2
      exact ⟨A'', c'', w', hrun, h2, (Below.refl _ _).grown h3 hbase fun k hk => (hown.lt k hk).1⟩
    · obtain ⟨b, off, hb, _⟩ := hA 0 hp
      injection hb with hb
      subst hb
      obtain ⟨v', w', hrun, h2, h3, _, _⟩ := run_append_own_at (P := Tryd.prog) w base 24 ty 42 i _ 4 8 Tryd.underlying24 hi hz hs1 hb1 rfl (by decide) _ n xs hown ⟨b, off, none⟩ m c' (flatI f m) (flatI_len f m) (flatI_cell hA rfl) (flatI_one f m) (by simp only [maxLen]; omega) (by omega) hbase
      obtain ⟨A'', c'', rfl⟩ := own_slice h2
      exact ⟨A'', c'', w', hrun, h2, (Below.refl _ _).grown h3 hbase fun k hk => (hown.lt k hk).1⟩
theorem wpList_ahead {w : World} {ops : Array Oper} {rest : List Oper} {o : Oper} {a : Act} {Q : Exit → Act → World → Prop} (hgd : o.guard = none) (s x : Operand)
    (ho : o.op = .call { callee := .builtin .append, args := #[s, x], argTypes := #[24, 24] })
    (q : Ins) (w0 : World) (hw : w = w0.alloc (.cells (celI q).toArray 42)) (hs : a.eval s = .slice (some ⟨w0.heap.size, 0, none⟩) 1 1) (A : Option Addr) (B m c : Nat) (f : Nat → Ins) (hx : a.eval x = .slice A m c) (hA : Ri w B A m f) (hm : m ≤ 100) (hA0 : A = none → m = 0)
    (h : ∀ A'' c'' w', w'.ownsRow w0.heap.size 42 4 (.slice A'' (m + 1) c'') (m + 1) (flatI (ahead q f) (m + 1)) → Below w0.heap.size w0 w' → wpList Tryd.prog ops Q rest (a.put o.dst (.slice A'' (m + 1) c'')) w') :
    wpList Tryd.prog ops Q (o :: rest) a w := by
  refine wpList_plain hgd fun K hK => ?_
  subst hw
  obtain ⟨A'', c'', w', hrun, h1, h2⟩ := run_behind o.type w0.heap.size 1 1 _ _ (one_own w0 q) (by simp) (by omega) A B m c f hA (by omega) hA0
  rw [Nat.add_comm 1 m, ← flatI_ahead] at h1
  rw [Nat.add_comm 1 m] at hrun
  unfold Oper.wp execOp
  simp only [ho, resolve, invoke, builtin, Sem.run_bind, Sem.run_pure, Result.andThen_ok, List.map_toArray, List.map_cons, List.map_nil, hs, hx, hrun]
  exact hK _ _ (h A'' c'' w' h1 (((Below.refl _ _).alloc (Nat.le_refl _) _).trans h2))
end Go.Proofs.YtgepeckdafeedaaDoor
