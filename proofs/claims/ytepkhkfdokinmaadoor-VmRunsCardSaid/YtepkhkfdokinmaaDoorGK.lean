/-
  CkStore, CkApp, Cop: in one file.
-/
import Derived.Test.YtepkhkfdokinmaaDoorGB
import Derived.Laws.CopyRow
/-
  Storing an instruction into the call's own row.
-/
namespace Go.Proofs.YtepkhkfdokinmaaDoor
open Go.RowKit

/-- The cells of the first m of them. -/
def flatI (f : Nat → Ins) (m : Nat) : List Value := (List.range m).flatMap fun k => celI (f k)
theorem flatI_succ (f : Nat → Ins) (m : Nat) : flatI f (m + 1) = flatI f m ++ celI (f m) := by simp [flatI, List.range_succ]
theorem flatI_len (f : Nat → Ins) (m : Nat) : (flatI f m).length = m * 4 := cel_flat_len f m
theorem flatI_congr {f f' : Nat → Ins} {m : Nat} (h : ∀ k, k < m → f k = f' k) : flatI f m = flatI f' m := by
  induction m with
  | zero => rfl
  | succ m ih => rw [flatI_succ, flatI_succ, ih fun k hk => h k (by omega), h m (by omega)]
theorem flatI_put (f : Nat → Ins) (q : Ins) {k m : Nat} (hk : k < m) : flatI (putI f k q) m = (flatI f m).take (k * 4) ++ celI q ++ (flatI f m).drop (k * 4 + 4) := by
  induction m with
  | zero => omega
  | succ m ih =>
    have hl := flatI_len f m
    rw [flatI_succ, flatI_succ]
    rcases Nat.lt_or_ge k m with h | h
    · rw [ih h, List.take_append_of_le_length (by omega), List.drop_append_of_le_length (by omega)]
      have : putI f k q m = f m := by unfold putI; rw [if_neg (by omega)]
      rw [this]
      simp
    · obtain rfl : k = m := by omega
      have e1 : flatI (putI f k q) k = flatI f k := flatI_congr fun j hj => by unfold putI; rw [if_neg (by omega)]
      have e2 : putI f k q k = q := by unfold putI; rw [if_pos rfl]
      rw [e1, e2, ← hl, List.take_left]
      rw [List.drop_eq_nil_of_le (by simp [celI])]
      simp
theorem celI_len (q : Ins) : (celI q).length = 4 := rfl
theorem flat_in {cur F : List Value} {m k : Nat} (q : Ins) (hF : cur.take (m * 4) = F) (hl : F.length = m * 4) (hk : k < m) :
    (cur.take (k * 4) ++ celI q ++ cur.drop (k * 4 + 4)).take (m * 4) = F.take (k * 4) ++ celI q ++ F.drop (k * 4 + 4) := by
  have e : cur = F ++ cur.drop (m * 4) := by rw [← hF, List.take_append_drop]
  obtain ⟨R, hR⟩ : ∃ R, cur.drop (m * 4) = R := ⟨_, rfl⟩
  rw [hR] at e
  subst e
  clear hF hR
  have e1 : (F ++ R).take (k * 4) = F.take (k * 4) := List.take_append_of_le_length (by omega)
  have e2 : (F ++ R).drop (k * 4 + 4) = F.drop (k * 4 + 4) ++ R := List.drop_append_of_le_length (by omega)
  rw [e1, e2, ← List.append_assoc]
  exact List.take_left' (by rw [List.length_append, List.length_append, List.length_take, List.length_drop, celI_len]; omega)

theorem store_ins {w : World} {base m c g k : Nat} {f : Nat → Ins} (ho : w.ownsRow base 54 4 (.slice (some ⟨g, 0, none⟩) m c) m (flatI f m)) (hk : k < m) (q : Ins) :
    ∃ w', (storeVar 54 ⟨g, k * 4, none⟩ (.agg #[.int .u16 q.1, .int .u8 q.2.1, .int .u8 q.2.2.1, .int .u32 q.2.2.2])).run Tryd.prog w = .ok () w' ∧ w'.ownsRow base 54 4 (.slice (some ⟨g, 0, none⟩) m c) m (flatI (putI f k q) m) ∧ Below base w w' := by
  rcases ho.2 with ⟨hv, _⟩ | ⟨g', cap, cur, hv, hg, hh, h1, h2, h3, h4⟩
  · cases hv
  · have hv' := hv
    injection hv' with e3 _ e5
    injection e3 with e3
    injection e3 with e3
    subst e3 e5
    have hs := run_storeCells_at (P := Tryd.prog) g (k * 4) 54 (celI q) 0 cur w hh (by rw [celI_len]; omega) (cel_one q)
    rw [Nat.add_zero, celI_len] at hs
    refine ⟨w.setRow g (cur.toList.take (k * 4) ++ celI q ++ cur.toList.drop (k * 4 + 4)).toArray, ?_, ⟨?_, .inr ⟨g, c, _, rfl, hg, setRow_heap w g cur _ _ _ hh, h1, h2, ?_, ?_⟩⟩, ?_⟩
    · have hi := insn_info
      cases hq : Tryd.prog.info? 54 with
      | none => simp [hq] at hi
      | some i =>
        have hs' : i.size = 4 := by simp [hq] at hi; exact hi.2.1
        show (storeVar 54 ⟨g, k * 4, none⟩ (.agg (celI q).toArray)).run Tryd.prog w = _
        simp [storeVar, sizeOf, typeInfo, hq, Value.cells, hs', celI_len, hs]
    · exact flatI_len _ _
    · simp only [List.size_toArray, List.length_append, List.length_take, List.length_drop, Array.length_toList, celI_len]
      omega
    · show (cur.toList.take (k * 4) ++ celI q ++ cur.toList.drop (k * 4 + 4)).take (m * 4) = _
      rw [flatI_put f q hk]
      exact flat_in q h4 (flatI_len f m) hk
    · exact (Below.refl base w).grown (row := some g) ⟨rfl, rfl, rfl, by simp [World.setRow], fun j _ hj => by have hne : ¬ g = j := fun e => hj (by rw [e]); simp [World.setRow, Array.getElem?_modify, hne]⟩ (by have := (Array.getElem?_eq_some_iff.1 hh).1; omega) (fun j hj => by cases hj; exact hg)

theorem wpList_store_ins {ops : Array Oper} {rest : List Oper} {o : Oper} {a : Act} {w : World} {Q : Exit → Act → World → Prop} (hgd : o.guard = none) (x y : Operand) (ho : o.op = .store 54 x y)
    (base m c g k off : Nat) (f : Nat → Ins) (q : Ins) (hx : a.eval x = .pointer (some ⟨g, off, none⟩)) (hoff : off = k * 4) (hy : a.eval y = .agg #[.int .u16 q.1, .int .u8 q.2.1, .int .u8 q.2.2.1, .int .u32 q.2.2.2])
    (hown : w.ownsRow base 54 4 (.slice (some ⟨g, 0, none⟩) m c) m (flatI f m)) (hk : k < m)
    (h : ∀ w', w'.ownsRow base 54 4 (.slice (some ⟨g, 0, none⟩) m c) m (flatI (putI f k q) m) → Below base w w' → wpList Tryd.prog ops Q rest (a.put o.dst undef) w') : wpList Tryd.prog ops Q (o :: rest) a w := by
  refine wpList_plain hgd fun K hK => ?_
  subst hoff
  obtain ⟨w', hrun, h1, h2⟩ := store_ins hown hk q
  unfold Oper.wp execOp
  simp only [ho, hx, hy, Instr.storeAt, Instr.sureAddr, Sem.run_bind, Sem.run_pure, Result.andThen_ok, hrun]
  exact hK _ _ (h w' h1 h2)
end Go.Proofs.YtepkhkfdokinmaaDoor

/-
  Instructions put behind an instruction of the call's own.
-/
namespace Go.Proofs.YtepkhkfdokinmaaDoor
open Go.RowKit

theorem flatI_ahead (q : Ins) (f : Nat → Ins) (m : Nat) : flatI (ahead q f) (m + 1) = celI q ++ flatI f m := by
  induction m with
  | zero => simp [flatI, ahead]
  | succ m ih =>
    rw [flatI_succ (ahead q f), ih, flatI_succ f, List.append_assoc]
    rfl
theorem flatI_cell {w : World} {B m : Nat} {A : Option Addr} {f : Nat → Ins} {b off : Nat} (hA : Ri w B A m f) (hb : A = some ⟨b, off, none⟩) : ∀ j u, (flatI f m)[j]? = some u → w.cell? ((⟨b, off, none⟩ : Addr).add j) = some u := by
  intro j u hj
  have hl := flatI_len f m
  have hjl : j < m * 4 := by
    rcases Nat.lt_or_ge j (m * 4) with h | h
    · exact h
    · rw [List.getElem?_eq_none (by omega)] at hj; cases hj
  have ea : (⟨b, off, none⟩ : Addr).add j = ⟨b, off + j, none⟩ := by
    unfold Addr.add
    by_cases h0 : j = 0 <;> simp [h0]
  obtain ⟨b', off', e, _, ⟨c0, c1, c2, c3⟩, _⟩ := hA (j / 4) (by omega)
  rw [hb] at e
  cases e
  obtain ⟨a0, a1, a2, a3⟩ := cel_flat_get f m (j / 4) (by omega)
  change (flatI f m)[j / 4 * 4]? = _ at a0
  change (flatI f m)[j / 4 * 4 + 1]? = _ at a1
  change (flatI f m)[j / 4 * 4 + 2]? = _ at a2
  change (flatI f m)[j / 4 * 4 + 3]? = _ at a3
  rw [ea]
  have hd : j = j / 4 * 4 ∨ j = j / 4 * 4 + 1 ∨ j = j / 4 * 4 + 2 ∨ j = j / 4 * 4 + 3 := by omega
  rcases hd with h | h | h | h
  · rw [h, a0] at hj; rw [h, ← hj]; exact c0
  · rw [h, a1] at hj; rw [h, ← hj, ← Nat.add_assoc]; exact c1
  · rw [h, a2] at hj; rw [h, ← hj, ← Nat.add_assoc]; exact c2
  · rw [h, a3] at hj; rw [h, ← hj, ← Nat.add_assoc]; exact c3
theorem flatI_one (f : Nat → Ins) (m : Nat) : ∀ u ∈ flatI f m, u.oneCell' = true := by
  intro u hu
  obtain ⟨k, _, hk⟩ := List.mem_flatMap.1 hu
  exact cel_one _ u hk
theorem one_own (w : World) (q : Ins) : (w.alloc (.cells (celI q).toArray 54)).ownsRow w.heap.size 54 4 (.slice (some ⟨w.heap.size, 0, none⟩) 1 1) 1 (celI q) :=
  ⟨rfl, .inr ⟨w.heap.size, 1, (celI q).toArray, rfl, Nat.le_refl _, heap_alloc_new w _, Nat.le_refl _, by simp [maxLen], rfl, rfl⟩⟩

/-- Appending what is read to a row of the call's own. -/
theorem run_behind {w : World} (ty : TypeId) (base n c : Nat) (A0 : Option Addr) (xs : List Value) (hown : w.ownsRow base 54 4 (.slice A0 n c) n xs) (hbase : base ≤ w.heap.size) (hn : n ≤ 300) (A : Option Addr) (B m c' : Nat) (f : Nat → Ins) (hA : Ri w B A m f) (hm : m ≤ 300) (hA0 : A = none → m = 0) :
    ∃ A'' c'' w', (Builtin.append_ #[28, 28] ty #[.slice A0 n c, .slice A m c']).run Tryd.prog w = .ok (.slice A'' (n + m) c'') w' ∧ w'.ownsRow base 54 4 (.slice A'' (n + m) c'') (n + m) (xs ++ flatI f m) ∧ Below base w w' := by
  obtain ⟨i, hi, hz, hs1, hb1⟩ := info_parts insn_info
  cases A with
  | none =>
    obtain rfl := hA0 rfl
    have hnc : n ≤ c := by
      rcases hown.2 with ⟨hv, h0⟩ | ⟨g, cap, cur, hv, _, _, hnc, _⟩
      · omega
      · injection hv with _ _ h3
        omega
    refine ⟨A0, c, w, ?_, by simpa [flatI] using hown, Below.refl _ _⟩
    cases A0 <;> simp [Builtin.append_, run_underlying Tryd.underlying28, sizeOf, typeInfo, hi, Builtin.lenOf, Builtin.firstCells, storeCells, loadCells, hnc]
  | some ad =>
    rcases Nat.eq_zero_or_pos m with rfl | hp
    · obtain ⟨v', w', hrun, h2, h3, _, _⟩ := run_append_own_at (P := Tryd.prog) w base 28 ty 54 i _ 4 8 Tryd.underlying28 hi hz hs1 hb1 rfl (by decide) _ n xs hown ad 0 c' (flatI f 0) rfl (by intro j u hj; simp [flatI] at hj) (flatI_one f 0) (by simp only [maxLen]; omega) (by omega) hbase
      obtain ⟨A'', c'', rfl⟩ := own_slice h2
      exact ⟨A'', c'', w', hrun, h2, (Below.refl _ _).grown h3 hbase fun k hk => (hown.lt k hk).1⟩
    · obtain ⟨b, off, hb, _⟩ := hA 0 hp
      injection hb with hb
      subst hb
      obtain ⟨v', w', hrun, h2, h3, _, _⟩ := run_append_own_at (P := Tryd.prog) w base 28 ty 54 i _ 4 8 Tryd.underlying28 hi hz hs1 hb1 rfl (by decide) _ n xs hown ⟨b, off, none⟩ m c' (flatI f m) (flatI_len f m) (flatI_cell hA rfl) (flatI_one f m) (by simp only [maxLen]; omega) (by omega) hbase
      obtain ⟨A'', c'', rfl⟩ := own_slice h2
      exact ⟨A'', c'', w', hrun, h2, (Below.refl _ _).grown h3 hbase fun k hk => (hown.lt k hk).1⟩
theorem wpList_ahead {w : World} {ops : Array Oper} {rest : List Oper} {o : Oper} {a : Act} {Q : Exit → Act → World → Prop} (hgd : o.guard = none) (s x : Operand)
    (ho : o.op = .call { callee := .builtin .append, args := #[s, x], argTypes := #[28, 28] })
    (q : Ins) (w0 : World) (hw : w = w0.alloc (.cells (celI q).toArray 54)) (hs : a.eval s = .slice (some ⟨w0.heap.size, 0, none⟩) 1 1) (A : Option Addr) (B m c : Nat) (f : Nat → Ins) (hx : a.eval x = .slice A m c) (hA : Ri w B A m f) (hm : m ≤ 100) (hA0 : A = none → m = 0)
    (h : ∀ A'' c'' w', w'.ownsRow w0.heap.size 54 4 (.slice A'' (m + 1) c'') (m + 1) (flatI (ahead q f) (m + 1)) → Below w0.heap.size w0 w' → wpList Tryd.prog ops Q rest (a.put o.dst (.slice A'' (m + 1) c'')) w') :
    wpList Tryd.prog ops Q (o :: rest) a w := by
  refine wpList_plain hgd fun K hK => ?_
  subst hw
  obtain ⟨A'', c'', w', hrun, h1, h2⟩ := run_behind o.type w0.heap.size 1 1 _ _ (one_own w0 q) (by simp) (by omega) A B m c f hA (by omega) hA0
  rw [Nat.add_comm 1 m, ← flatI_ahead] at h1
  rw [Nat.add_comm 1 m] at hrun
  unfold Oper.wp execOp
  simp only [ho, resolve, invoke, builtin, Sem.run_bind, Sem.run_pure, Result.andThen_ok, List.map_toArray, List.map_cons, List.map_nil, hs, hx, hrun]
  exact hK _ _ (h A'' c'' w' h1 (((Below.refl _ _).alloc (Nat.le_refl _) _).trans h2))
end Go.Proofs.YtepkhkfdokinmaaDoor

/-
  A law's copied: a program copied into a row of the call's own.
-/
namespace Go.Proofs.YtepkhkfdokinmaaDoor
open Go.RowKit
set_option linter.unusedVariables false

theorem nil_own (w : World) : (w.alloc (.cells #[] 54)).ownsRow w.heap.size 54 4 (.slice (some ⟨w.heap.size, 0, none⟩) 0 0) 0 [] :=
  ⟨rfl, .inr ⟨w.heap.size, 0, #[], rfl, Nat.le_refl _, heap_alloc_new w _, Nat.le_refl _, by simp [maxLen], rfl, rfl⟩⟩
theorem wpList_copied {w : World} {ops : Array Oper} {rest : List Oper} {o : Oper} {a : Act} {Q : Exit → Act → World → Prop} (hgd : o.guard = none) (s x : Operand)
    (ho : o.op = .call { callee := .builtin .append, args := #[s, x], argTypes := #[28, 28] })
    (w0 : World) (hw : w = w0.alloc (.cells #[] 54)) (hs : a.eval s = .slice (some ⟨w0.heap.size, 0, none⟩) 0 0) (A : Option Addr) (B m c : Nat) (f : Nat → Ins) (hx : a.eval x = .slice A m c) (hA : Ri w B A m f) (hm : m ≤ 300) (hA0 : A = none → m = 0)
    (h : ∀ A'' c'' w', w'.ownsRow w0.heap.size 54 4 (.slice A'' m c'') m (flatI f m) → Below w0.heap.size w0 w' → wpList Tryd.prog ops Q rest (a.put o.dst (.slice A'' m c'')) w') :
    wpList Tryd.prog ops Q (o :: rest) a w := by
  refine wpList_plain hgd fun K hK => ?_
  subst hw
  obtain ⟨A'', c'', w', hrun, h1, h2⟩ := run_behind o.type w0.heap.size 0 0 _ _ (nil_own w0) (by simp) (by omega) A B m c f hA (by omega) hA0
  rw [Nat.zero_add] at h1 hrun
  rw [List.nil_append] at h1
  unfold Oper.wp execOp
  simp only [ho, resolve, invoke, builtin, Sem.run_bind, Sem.run_pure, Result.andThen_ok, List.map_toArray, List.map_cons, List.map_nil, hs, hx, hrun]
  exact hK _ _ (h A'' c'' w' h1 (((Below.refl _ _).alloc (Nat.le_refl _) _).trans h2))

set_option maxHeartbeats 1000000 in
theorem copied_any (A : Option Addr) (m cap : Nat) (f : Nat → Ins) (w : World) (hA : Ri w w.heap.size A m f) (hm : m ≤ 300) (hA0 : A = none → m = 0) :
    Calls Tryd.prog 14 #[.slice A m cap] w fun e w' => ∃ A' c', e = .returned (.slice A' m c') ∧ m ≤ c' ∧ Ri w' w'.heap.size A' m f ∧ Below w.heap.size w w' := by
  have hio := hA.ok
  have hA1 := hA.below ((Below.refl _ w).alloc (Nat.le_refl _) (.cells #[] 54)) (Nat.le_refl _)
  go_enter Tryd.func14, Tryd.ntmps14
  go_wp2_with (at_builtin; refine wpList_copied rfl (.tmp 3) (.tmp 4) rfl w rfl rfl A w.heap.size m cap f rfl hA1 hm hA0 ?_; intro A2 c2 w2 how hb2)
  obtain ⟨h1, h2⟩ := ri_of_own how hio
  go_ret
  exact ⟨A2, c2, rfl, h2, h1, hb2⟩
end Go.Proofs.YtepkhkfdokinmaaDoor
