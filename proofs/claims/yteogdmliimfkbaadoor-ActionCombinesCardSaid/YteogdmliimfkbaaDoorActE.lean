/-
  few: words in memory of the call's own; wakes.
-/
import Derived.Test.YteogdmliimfkbaaDoorActD
namespace Go.Proofs.YteogdmliimfkbaaDoor
open Go.RowKit
set_option linter.unusedVariables false

/-- Words, as values. -/
def uv (l : List Int) : List Value := l.map (Value.int .u32)
theorem uv_len (l : List Int) : (uv l).length = l.length := by simp [uv]
theorem u32_info : (Tryd.prog.info? 26).map (fun i => (i.zero, i.size, i.bytes)) = some (some (.int .u32 0), 1, 4) := by kernel_rfl
theorem uv_one (l : List Int) : ∀ u ∈ uv l, u.oneCell' = true := by
  intro u hu
  simp only [uv, List.mem_map] at hu
  obtain ⟨z, _, rfl⟩ := hu
  rfl
theorem ru_of_own {w : World} {base n c : Nat} {A : Option Addr} {l : List Int} (h : w.ownsRow base 26 1 (.slice A n c) n (uv l)) (hl : ∀ x ∈ l, 0 ≤ x ∧ x < 4294967296) : Ru w w.heap.size A l ∧ n ≤ c ∧ n = l.length := by
  have hlen := h.1
  rw [uv_len, Nat.mul_one] at hlen
  refine ⟨⟨hl, fun k hk => ?_⟩, ?_, hlen.symm⟩
  · obtain ⟨g, c', hv, hg, hcs⟩ := own_head h (by omega)
    injection hv with hA _ _
    refine ⟨g, 0, hA, hg, ?_⟩
    rw [Nat.zero_add]
    exact hcs k _ (by simp [uv, List.getD, hk])
  · rcases h.2 with ⟨hv, h0⟩ | ⟨g, cap, cur, hv, _, _, hnc, _⟩
    · omega
    · injection hv with _ _ h3
      omega
theorem Ru.add {w : World} {b off B : Nat} {l : List Int} (h : Ru w B (some ⟨b, off, none⟩) l) : ∀ j u, (uv l)[j]? = some u → w.cell? ((⟨b, off, none⟩ : Addr).add j) = some u := by
  intro j u hj
  have hjl : j < l.length := by
    rcases Nat.lt_or_ge j l.length with h | h
    · exact h
    · rw [List.getElem?_eq_none (by rw [uv_len]; exact h)] at hj; cases hj
  obtain ⟨b', off', e, _, c⟩ := h.2 j hjl
  cases e
  have e : (⟨b, off, none⟩ : Addr).add j = ⟨b, off + j, none⟩ := by unfold Addr.add; by_cases h0 : j = 0 <;> simp [h0]
  rw [e, c, ← hj]
  simp [uv, List.getD, hjl]
/-- Appending what came in to the call's own. -/
theorem run_append_u32 {w : World} (ty : TypeId) (base : Nat) (v0 : Value) (n0 : Nat) (l0 : List Int) (hown : w.ownsRow base 26 1 v0 n0 (uv l0)) (b off B m c : Nat) (l : List Int) (hA : Ru w B (some ⟨b, off, none⟩) l) (hm : m = l.length) (hn : n0 + m ≤ 1000000) (hbase : base ≤ w.heap.size) :
    ∃ A'' c'' w', (Builtin.append_ #[22, 22] ty #[v0, .slice (some ⟨b, off, none⟩) m c]).run Tryd.prog w = .ok (.slice A'' (n0 + m) c'') w' ∧ w'.ownsRow base 26 1 (.slice A'' (n0 + m) c'') (n0 + m) (uv (l0 ++ l)) ∧ Below base w w' := by
  obtain ⟨i, hi, hz, hs1, hb1⟩ := info_parts u32_info
  subst hm
  obtain ⟨v', w', hrun, h2, h3, _, _⟩ := run_append_own_at (P := Tryd.prog) w base 22 ty 26 i _ 1 4 Tryd.underlying22 hi hz hs1 hb1 rfl (by decide) _ n0 (uv l0) hown ⟨b, off, none⟩ l.length c (uv l) (by rw [uv_len, Nat.mul_one]) hA.add
    (uv_one l) (by simp only [maxLen]; omega) (by omega) hbase
  obtain ⟨A'', c'', rfl⟩ := own_slice h2
  refine ⟨A'', c'', w', hrun, by simpa [uv] using h2, (Below.refl _ _).grown h3 hbase fun k hk => (hown.lt k hk).1⟩
theorem run_few {w : World} (ty : TypeId) (g : Nat) (hg : w.heap[g]? = some (.cells #[] 26 (0, 0))) (A : Option Addr) (B m c : Nat) (l : List Int) (hA : Ru w B A l) (hm : m = l.length) (hm3 : m ≤ 1000) :
    ∃ A'' c'' w', (Builtin.append_ #[22, 22] ty #[.slice (some ⟨g, 0, none⟩) 0 0, .slice A m c]).run Tryd.prog w = .ok (.slice A'' m c'') w' ∧ w'.ownsRow g 26 1 (.slice A'' m c'') m (uv l) ∧ Below g w w' := by
  obtain ⟨i, hi, hz, hs1, hb1⟩ := info_parts u32_info
  have hown : w.ownsRow g 26 1 (.slice (some ⟨g, 0, none⟩) 0 0) 0 (uv []) := ⟨rfl, .inr ⟨g, 0, #[], rfl, Nat.le_refl _, hg, Nat.le_refl _, by simp [maxLen], rfl, rfl⟩⟩
  have hlt : g < w.heap.size := (Array.getElem?_eq_some_iff.1 hg).1
  rcases Nat.eq_zero_or_pos m with h0 | hp
  · subst h0
    obtain rfl : l = [] := List.length_eq_zero_iff.1 hm.symm
    refine ⟨some ⟨g, 0, none⟩, 0, w, ?_, hown, Below.refl _ _⟩
    cases A <;> simp [Builtin.append_, run_underlying Tryd.underlying22, sizeOf, typeInfo, hi, Builtin.lenOf, Builtin.firstCells, storeCells, loadCells, loadCellsFrom]
  · obtain ⟨b, off, rfl, _⟩ := hA.2 0 (by omega)
    obtain ⟨A'', c'', w', hrun, h2, h3⟩ := run_append_u32 ty g _ 0 [] hown b off B m c l hA hm (by omega) (Nat.le_of_lt hlt)
    rw [Nat.zero_add] at hrun h2
    exact ⟨A'', c'', w', hrun, h2, h3⟩
theorem wpList_few {w : World} {ops : Array Oper} {rest : List Oper} {o : Oper} {a : Act} {Q : Exit → Act → World → Prop} (hgd : o.guard = none) (s x : Operand)
    (ho : o.op = .call { callee := .builtin .append, args := #[s, x], argTypes := #[22, 22] })
    (g : Nat) (hs : a.eval s = .slice (some ⟨g, 0, none⟩) 0 0) (hg : w.heap[g]? = some (.cells #[] 26 (0, 0))) (A : Option Addr) (B m c : Nat) (l : List Int) (hx : a.eval x = .slice A m c) (hA : Ru w B A l) (hm : m = l.length) (hm3 : m ≤ 1000)
    (h : ∀ A'' c'' w', w'.ownsRow g 26 1 (.slice A'' m c'') m (uv l) → Below g w w' → wpList Tryd.prog ops Q rest (a.put o.dst (.slice A'' m c'')) w') :
    wpList Tryd.prog ops Q (o :: rest) a w := by
  refine wpList_plain hgd fun K hK => ?_
  obtain ⟨A'', c'', w', hrun, h1, h2⟩ := run_few o.type g hg A B m c l hA hm hm3
  unfold Oper.wp execOp
  simp only [ho, resolve, invoke, builtin, Sem.run_bind, Sem.run_pure, Result.andThen_ok, List.map_toArray, List.map_cons, List.map_nil, hs, hx, hrun]
  exact hK _ _ (h A'' c'' w' h1 h2)
theorem Ru.take {w : World} {B : Nat} {A : Option Addr} {l : List Int} (h : Ru w B A l) (m : Nat) : Ru w B A (l.take m) := ⟨fun x hx => h.1 x (List.mem_of_mem_take hx), fun k hk => by
  rw [List.length_take] at hk
  obtain ⟨b, off, e, h1, c⟩ := h.2 k (by omega)
  refine ⟨b, off, e, h1, c.trans ?_⟩
  simp [List.getD, show k < m by omega]⟩
theorem Ru.drop {w : World} {B b off : Nat} {l : List Int} (h : Ru w B (some ⟨b, off, none⟩) l) (k : Nat) : Ru w B (some ⟨b, off + k, none⟩) (l.drop k) := ⟨fun x hx => h.1 x (List.mem_of_mem_drop hx), fun j hj => by
  rw [List.length_drop] at hj
  obtain ⟨b', off', e, h1, c⟩ := h.2 (k + j) (by omega)
  cases e
  refine ⟨b, off + k, rfl, h1, ?_⟩
  rw [Nat.add_assoc, c]
  simp [List.getD, List.getElem?_drop]⟩
set_option maxRecDepth 100000 in
set_option maxHeartbeats 1000000 in
theorem few_any (A : Option Addr) (n c : Nat) (l : List Int) (w : World) (hA : Ru w w.heap.size A l) (hn : n = l.length) (hc : n ≤ c) (m : Nat) (hm : m = min n 40) :
    Calls Tryd.prog 9 #[.slice A n c] w fun e w' => ∃ A' c', e = .returned (.slice A' m c') ∧ w'.ownsRow w.heap.size 26 1 (.slice A' m c') m (uv (l.take m)) ∧ Below w.heap.size w w' := by
  have hb := (Below.refl w.heap.size w).alloc (Nat.le_refl _) (.cells #[] 26)
  have hA1 := (hA.take m).below hb (Nat.le_refl _)
  have hg := heap_alloc_new w (.cells #[] 26)
  have h300 : m ≤ 1000 := by omega
  have HL := Lib.hid (show m = (l.take m).length by rw [List.length_take]; omega)
  clear hn
  rcases Nat.lt_or_ge 40 n with h | h
  · have h' : (40 : Int) < n := by omega
    have hx := Lib.hid (show (Value.slice A 40 c) = .slice A m c by rw [show m = 40 by omega])
    clear hm
    go_enter Tryd.func9, Tryd.ntmps9
    go_wp2_with (at_builtin; refine wpList_few rfl (.tmp 3) (.tmp 8) rfl w.heap.size rfl hg A w.heap.size m c _ (Eq.trans rfl hx.out) hA1 HL.out h300 ?_; intro A2 c2 w2 ho hb2)
    go_ret
    exact ⟨A2, c2, rfl, ho, hb.trans hb2⟩
  · obtain rfl : m = n := by omega
    have h' : (m : Int) ≤ 40 := by omega
    clear hm
    go_enter Tryd.func9, Tryd.ntmps9
    go_wp2_with (at_builtin; refine wpList_few rfl (.tmp 3) (.tmp 8) rfl w.heap.size rfl hg A w.heap.size m c _ rfl hA1 HL.out h300 ?_; intro A2 c2 w2 ho hb2)
    go_ret
    exact ⟨A2, c2, rfl, ho, hb.trans hb2⟩

theorem wk_cmb : cmbI [2147418112, 327681, 327682] = (3, 1, 1) := by decide
theorem wk_act : actI 65543 = 0 := by decide
theorem wk_name : nAt 4 = ⟨#[110, 111, 116, 105, 102, 121]⟩ := rfl
set_option maxRecDepth 100000 in
set_option maxHeartbeats 2000000 in
theorem wakes_any (w : World) (hK : Acts w) : Calls Tryd.prog 8 #[] w fun e w' => e = .returned (.bool true) ∧ Below w.heap.size w w' := by
  have hb0 := (Below.refl w.heap.size w).alloc (Nat.le_refl _) (.cells #[.int .u32 2147418112, .int .u32 327681, .int .u32 327682] 26)
  have hR : Ru (w.alloc (.cells #[.int .u32 2147418112, .int .u32 327681, .int .u32 327682] 26)) (w.heap.size + 1) (some ⟨w.heap.size, 0, none⟩) [2147418112, 327681, 327682] :=
    ⟨by decide, fun k hk => ⟨w.heap.size, 0, rfl, by omega, by
      match k, hk with
      | 0, _ => simp
      | 1, _ => simp
      | 2, _ => simp⟩⟩
  have hC := combine_any (some ⟨w.heap.size, 0, none⟩) 3 3 [2147418112, 327681, 327682] _ (hK.alloc _) (by simpa using hR) rfl (by omega) (by omega)
  rw [wk_cmb] at hC
  have hN := fun w h => name_yes 4 (by omega) w h
  rw [wk_name] at hN
  have hS := fun w h => split_any 65543 (by omega) (by omega) w h
  rw [wk_act] at hS
  go_enter Tryd.func8, Tryd.ntmps8
  go_wp2_with fail
  refine hC.mono ?_
  rintro e w1 ⟨rfl, b1⟩
  have B1 : Below w.heap.size w w1 := hb0.trans (b1.mono (by simp))
  go_wp2_with fail
  refine (hN _ ((hK.below B1 hK.pos).alloc _)).mono ?_
  rintro e w2 ⟨rfl, rfl⟩
  go_wp2_with fail
  refine (hS _ ((hK.below B1 hK.pos).alloc _)).mono ?_
  rintro e w3 ⟨rfl, b3⟩
  go_wp2_with fail
  go_ret
  exact ⟨rfl, (B1.alloc B1.size _).trans (b3.mono (by have := B1.size; simp; omega))⟩
end Go.Proofs.YteogdmliimfkbaaDoor
