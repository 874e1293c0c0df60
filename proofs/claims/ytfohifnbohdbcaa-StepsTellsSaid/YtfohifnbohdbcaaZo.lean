/-
  Rows of numbers that the call owns; append of a read row; slices.Clone at numbers.
-/
import Derived.Test.YtfohifnbohdbcaaGen
import Derived.Test.YtfohifnbohdbcaaRi7
import Derived.Shelf.Slices.Empties
namespace Go.Proofs.Ytfohifnbohdbcaa
open Go.RowKit Go.Shelf
set_option linter.unusedVariables false
set_option linter.unusedSimpArgs false

/-- The call's own row of numbers. -/
def Zo (w : World) (base : Nat) (A : Option Addr) (m c : Nat) (l : List Int) : Prop := w.ownsRow base 3 1 (.slice A m c) m (l.map (Value.int .i64))
theorem zint_info : (Try.prog.info? 3).map (fun i => (i.zero, i.size, i.bytes)) = some (some (.int .i64 0), 1, 8) := by kernel_rfl
theorem z_add (b off j : Nat) : (⟨b, off, none⟩ : Addr).add j = ⟨b, off + j, none⟩ := by unfold Addr.add; by_cases h0 : j = 0 <;> simp [h0]
theorem z_get {l : List Int} {j : Nat} {u : Value} (h : (l.map (Value.int .i64))[j]? = some u) : j < l.length ∧ u = .int .i64 (l.getD j 0) := by
  rw [List.getElem?_map] at h
  have hj : j < l.length := by
    rcases Nat.lt_or_ge j l.length with h1 | h1
    · exact h1
    · rw [List.getElem?_eq_none h1] at h; cases h
  refine ⟨hj, ?_⟩
  rw [List.getElem?_eq_getElem hj] at h
  simp at h
  rw [← h]
  simp [List.getD, hj]
theorem z_get' {l : List Int} {j : Nat} (h : j < l.length) : (l.map (Value.int .i64))[j]? = some (.int .i64 (l.getD j 0)) := by
  rw [List.getElem?_map, List.getElem?_eq_getElem h]
  simp [List.getD, h]
section
variable {w w' : World} {base B m c : Nat} {A : Option Addr} {l : List Int}
theorem Zo.len (h : Zo w base A m c l) : m = l.length := by have := h.1; simpa using this.symm
theorem Zo.down (h : Zo w base A m c l) {b : Nat} (hb : b ≤ base) : Zo w b A m c l := own_base h hb
theorem Zo.below (h : Zo w base A m c l) (hb : Below B w w') (hB : w.heap.size ≤ B) : Zo w' base A m c l := ownsRow_below h hb hB
theorem Zo.ri (h : Zo w base A m c l) : Ri7 w w.heap.size A l := fun k hk => by
  have hm := h.len
  obtain ⟨g, c', hv, hg, hcs⟩ := own_head h (by omega)
  injection hv with hA _ _
  exact ⟨g, 0, hA, hg, by rw [Nat.zero_add]; exact hcs _ _ (z_get' hk)⟩
theorem Zo.cap (h : Zo w base A m c l) : m ≤ c := by
  rcases h.2 with ⟨hv, h0⟩ | ⟨g, cap, cur, hv, _, _, hnc, _⟩
  · omega
  · injection hv with _ _ h3
    omega
/-- It is nil, or lies in a block of its own. -/
theorem Zo.form (h : Zo w base A m c l) : (A = none ∧ m = 0 ∧ c = 0 ∧ l = []) ∨ ∃ g, A = some ⟨g, 0, none⟩ ∧ base ≤ g ∧ g < w.heap.size ∧ ∃ cur, w.heap[g]? = some (.cells cur 3 (0, 0)) ∧ m ≤ c ∧ c ≤ maxLen ∧ cur.size = c ∧ cur.toList.take m = l.map (Value.int .i64) := by
  have hl := h.len
  rcases h.2 with ⟨hv, h0⟩ | ⟨g, cap, cur, hv, hg, hh, h1, h2, h3, h4⟩
  · injection hv with e1 e2 e3
    exact .inl ⟨e1, h0, e3, List.eq_nil_of_length_eq_zero (by omega)⟩
  · injection hv with e1 _ e3
    subst e3
    refine .inr ⟨g, e1, hg, (Array.getElem?_eq_some_iff.1 hh).1, cur, hh, h1, h2, by simpa using h3, by simpa using h4⟩
theorem zo_nil (w : World) (base : Nat) : Zo w base none 0 0 [] := World.ownsRow_nil w base _ 1
theorem zo_block {g : Nat} {cur : Array Value} (hb : base ≤ g) (hh : w.heap[g]? = some (.cells cur 3 (0, 0))) (h1 : m ≤ c) (h2 : c ≤ maxLen) (h3 : cur.size = c) (h4 : cur.toList.take m = l.map (Value.int .i64)) (hm : m = l.length) : Zo w base (some ⟨g, 0, none⟩) m c l :=
  ⟨by simp [hm], .inr ⟨g, c, cur, rfl, hb, hh, h1, h2, by simpa using h3, by simpa using h4⟩⟩
end
/-- Numbers that are read, put behind a row of the call's own. -/
theorem run_appZ {w : World} (ty : TypeId) (base : Nat) (A : Option Addr) (m c : Nat) (l : List Int) (ho : Zo w base A m c l) (hA : A ≠ none) (A2 : Option Addr) (B m2 c2 : Nat) (l2 : List Int) (h2 : Ri7 w B A2 l2) (hm2 : m2 = l2.length) (hsz : m + m2 ≤ 2000000) (hbase : base ≤ w.heap.size) :
    ∃ A' c' w', (Builtin.append_ #[40, 40] ty #[.slice A m c, .slice A2 m2 c2]).run Try.prog w = .ok (.slice A' (m + m2) c') w' ∧ Zo w' base A' (m + m2) c' (l ++ l2) ∧ Below base w w' := by
  obtain ⟨i, hi, hz, hs1, hb1⟩ := info_parts zint_info
  rcases Nat.eq_zero_or_pos m2 with h0 | hp
  · subst h0
    have hl2 : l2 = [] := List.eq_nil_of_length_eq_zero hm2.symm
    subst hl2
    rcases ho.form with ⟨e, _⟩ | ⟨g, rfl, hbg, hlt, cur, hh, h1, h3, h4, h5⟩
    · exact absurd e hA
    · refine ⟨some ⟨g, 0, none⟩, c, w, ?_, by simpa using ho, Below.refl _ _⟩
      cases A2 <;> simp [Builtin.append_, run_underlying Try.underlying40, sizeOf, typeInfo, hi, Builtin.lenOf, Builtin.firstCells, storeCells, loadCells, loadCellsFrom, h1]
  · obtain ⟨b, off, rfl, _⟩ := h2 0 (by omega)
    have hcell : ∀ j u, (l2.map (Value.int .i64))[j]? = some u → w.cell? ((⟨b, off, none⟩ : Addr).add j) = some u := by
      intro j u hj
      obtain ⟨hj2, rfl⟩ := z_get hj
      obtain ⟨b', off', e, _, hc⟩ := h2 j hj2
      cases e
      rw [z_add]
      exact hc
    obtain ⟨v', w', hrun, h3, h4, _, _⟩ := run_append_own_at (P := Try.prog) w base 40 ty 3 i _ 1 8 Try.underlying40 hi hz hs1 hb1 rfl (by decide) _ m _ ho ⟨b, off, none⟩ m2 c2 (l2.map (Value.int .i64)) (by simp [hm2]) hcell
      (by intro u hu; obtain ⟨k, _, rfl⟩ := List.mem_map.1 hu; rfl) (by simp only [maxLen]; omega) (by omega) hbase
    obtain ⟨A'', c'', rfl⟩ := own_slice h3
    exact ⟨A'', c'', w', hrun, by unfold Zo; rw [List.map_append]; exact h3, (Below.refl _ _).grown h4 hbase fun k hk => (ho.lt k hk).1⟩
theorem wpList_appZ {w : World} {ops : Array Oper} {rest : List Oper} {o : Oper} {a : Act} {Q : Exit → Act → World → Prop} (hgd : o.guard = none) (s x : Operand)
    (ho : o.op = .call { callee := .builtin .append, args := #[s, x], argTypes := #[40, 40] })
    (base : Nat) (A : Option Addr) (m c : Nat) (l : List Int) (hs : a.eval s = .slice A m c) (hown : Zo w base A m c l) (hA : A ≠ none) (A2 : Option Addr) (B m2 c2 : Nat) (l2 : List Int) (hx : a.eval x = .slice A2 m2 c2) (h2 : Ri7 w B A2 l2) (hm2 : m2 = l2.length) (hsz : m + m2 ≤ 2000000) (hbase : base ≤ w.heap.size)
    (h : ∀ A' c' w', Zo w' base A' (m + m2) c' (l ++ l2) → Below base w w' → wpList Try.prog ops Q rest (a.put o.dst (.slice A' (m + m2) c')) w') :
    wpList Try.prog ops Q (o :: rest) a w := by
  refine wpList_plain hgd fun K hK => ?_
  obtain ⟨A', c', w', hrun, h3, h4⟩ := run_appZ o.type base A m c l hown hA A2 B m2 c2 l2 h2 hm2 hsz hbase
  unfold Oper.wp execOp
  simp only [ho, resolve, invoke, builtin, Sem.run_bind, Sem.run_pure, Result.andThen_ok, List.map_toArray, List.map_cons, List.map_nil, hs, hx, hrun]
  exact hK _ _ (h A' c' w' h3 h4)
theorem zo_empty (w : World) : Zo (w.alloc (.cells #[] 3)) w.heap.size (some ⟨w.heap.size, 0, none⟩) 0 0 [] := zo_block (Nat.le_refl _) (heap_alloc_new w _) (Nat.le_refl _) (by simp [maxLen]) rfl rfl rfl
theorem eql_nilZ (A : Option Addr) (m c : Nat) (w : World) : (binOp .eql 40 (.slice A m c) (.slice none 0 0)).run Try.prog w = .ok (.bool A.isNone) w := by
  have h : ∀ d, (Op.equalIn (d + 1) 40 (.slice A m c) (.slice none 0 0)).run Try.prog w = .ok A.isNone w := fun d => by
    cases A <;> simp [Op.equalIn, run_underlying Try.underlying40]
  have h2 : (Op.equal 40 (.slice A m c) (.slice none 0 0)).run Try.prog w = .ok A.isNone w := h 9999
  simp [binOp, h2]
set_option maxRecDepth 100000 in
set_option maxHeartbeats 1000000 in
theorem zclone_any (A : Option Addr) (m c : Nat) (l : List Int) (w : World) (hA : Ri7 w w.heap.size A l) (hm : m = l.length) (h6 : m ≤ 1000000) :
    Calls Try.prog 86 #[.slice A m c] w fun e w' => ∃ A' c', e = .returned (.slice A' m c') ∧ Zo w' w.heap.size A' m c' l ∧ Below w.heap.size w w' := by
  have hb := (Below.refl w.heap.size w).alloc (Nat.le_refl _) (.cells #[] 3)
  have hA1 := hA.below hb (Nat.le_refl _)
  have he := zo_empty w
  cases A with
  | none =>
    have hl : l = [] := by
      rcases l with _ | ⟨x, l⟩
      · rfl
      · obtain ⟨b, off, e, _⟩ := hA 0 (by simp)
        cases e
    subst hl
    simp at hm
    subst hm
    have en := fun w => eql_nilZ none 0 c w
    simp only [Option.isNone_none] at en
    go_enter Try.func86, Try.ntmps86
    go_wp2
    go_ret
    exact ⟨none, 0, rfl, zo_nil _ _, Below.refl _ _⟩
  | some a =>
    have en := fun w => eql_nilZ (some a) m c w
    simp only [Option.isNone_some] at en
    have HM := Lib.hid hm
    clear hm
    go_enter Try.func86, Try.ntmps86
    go_wp2_with (at_builtin; with_reducible refine wpList_appZ rfl (.tmp 5) (.tmp 6) rfl w.heap.size _ 0 0 [] rfl he (by simp) (some a) w.heap.size m c l rfl hA1 HM.out (by omega) (by simp) ?_; intro A2 c2 w2 ho hb2)
    go_ret
    simp only [Nat.zero_add, List.nil_append] at ho
    exact ⟨A2, c2, rfl, ho, hb.trans hb2⟩
end Go.Proofs.Ytfohifnbohdbcaa
