/-
  Rows of numbers that the call owns; slices.Clone, BinarySearch, Insert, Delete at numbers.
-/
import Derived.Test.YtjbhliabmaipbaaPiSh
import Derived.Shelf.Slices.Empties
import Derived.Test.YtjbhliabmaipbaaPiM
namespace Go.Proofs.Ytjbhliabmaipbaa
open Go.RowKit Go.Shelf
set_option linter.unusedVariables false
set_option linter.unusedSimpArgs false

/-- The call's own row of numbers. -/
def Zo (w : World) (base : Nat) (A : Option Addr) (m c : Nat) (l : List Int) : Prop := w.ownsRow base 3 1 (.slice A m c) m (l.map (Value.int .i64))
theorem zint_info : (Try.prog.info? 3).map (fun i => (i.zero, i.size, i.bytes)) = some (some (.int .i64 0), 1, 8) := by kernel_rfl
theorem z_add (b off j : Nat) : (⟨b, off, none⟩ : Addr).add j = ⟨b, off + j, none⟩ := by unfold Addr.add; by_cases h0 : j = 0 <;> simp [h0]
theorem z_get {l : List Int} {j : Nat} {u : Value} (h : (l.map (Value.int .i64))[j]? = some u) : j < l.length ∧ u = .int .i64 (l.getD j 0) := by
  rw [List.getElem?_map] at h
  have hj : j < l.length := by
    rcases Nat.lt_or_ge j l.length with h1 | h1
    · exact h1
    · rw [List.getElem?_eq_none h1] at h; cases h
  refine ⟨hj, ?_⟩
  rw [List.getElem?_eq_getElem hj] at h
  simp at h
  rw [← h]
  simp [List.getD, hj]
theorem z_get' {l : List Int} {j : Nat} (h : j < l.length) : (l.map (Value.int .i64))[j]? = some (.int .i64 (l.getD j 0)) := by
  rw [List.getElem?_map, List.getElem?_eq_getElem h]
  simp [List.getD, h]
section
variable {w w' : World} {base B m c : Nat} {A : Option Addr} {l : List Int}
theorem Zo.len (h : Zo w base A m c l) : m = l.length := by have := h.1; simpa using this.symm
theorem Zo.down (h : Zo w base A m c l) {b : Nat} (hb : b ≤ base) : Zo w b A m c l := own_base h hb
theorem Zo.below (h : Zo w base A m c l) (hb : Below B w w') (hB : w.heap.size ≤ B) : Zo w' base A m c l := ownsRow_below h hb hB
theorem Zo.ri (h : Zo w base A m c l) : Ri7 w w.heap.size A l := fun k hk => by
  have hm := h.len
  obtain ⟨g, c', hv, hg, hcs⟩ := own_head h (by omega)
  injection hv with hA _ _
  exact ⟨g, 0, hA, hg, by rw [Nat.zero_add]; exact hcs _ _ (z_get' hk)⟩
theorem Zo.cap (h : Zo w base A m c l) : m ≤ c := by
  rcases h.2 with ⟨hv, h0⟩ | ⟨g, cap, cur, hv, _, _, hnc, _⟩
  · omega
  · injection hv with _ _ h3
    omega
/-- It is nil, or lies in a block of its own. -/
theorem Zo.form (h : Zo w base A m c l) : (A = none ∧ m = 0 ∧ c = 0 ∧ l = []) ∨ ∃ g, A = some ⟨g, 0, none⟩ ∧ base ≤ g ∧ g < w.heap.size ∧ ∃ cur, w.heap[g]? = some (.cells cur 3 (0, 0)) ∧ m ≤ c ∧ c ≤ maxLen ∧ cur.size = c ∧ cur.toList.take m = l.map (Value.int .i64) := by
  have hl := h.len
  rcases h.2 with ⟨hv, h0⟩ | ⟨g, cap, cur, hv, hg, hh, h1, h2, h3, h4⟩
  · injection hv with e1 e2 e3
    exact .inl ⟨e1, h0, e3, List.eq_nil_of_length_eq_zero (by omega)⟩
  · injection hv with e1 _ e3
    subst e3
    refine .inr ⟨g, e1, hg, (Array.getElem?_eq_some_iff.1 hh).1, cur, hh, h1, h2, by simpa using h3, by simpa using h4⟩
theorem zo_nil (w : World) (base : Nat) : Zo w base none 0 0 [] := World.ownsRow_nil w base _ 1
theorem zo_block {g : Nat} {cur : Array Value} (hb : base ≤ g) (hh : w.heap[g]? = some (.cells cur 3 (0, 0))) (h1 : m ≤ c) (h2 : c ≤ maxLen) (h3 : cur.size = c) (h4 : cur.toList.take m = l.map (Value.int .i64)) (hm : m = l.length) : Zo w base (some ⟨g, 0, none⟩) m c l :=
  ⟨by simp [hm], .inr ⟨g, c, cur, rfl, hb, hh, h1, h2, by simpa using h3, by simpa using h4⟩⟩
end
/-- Numbers that are read, put behind a row of the call's own. -/
theorem run_appZ {w : World} (ty : TypeId) (base : Nat) (A : Option Addr) (m c : Nat) (l : List Int) (ho : Zo w base A m c l) (hA : A ≠ none) (A2 : Option Addr) (B m2 c2 : Nat) (l2 : List Int) (h2 : Ri7 w B A2 l2) (hm2 : m2 = l2.length) (hsz : m + m2 ≤ 2000000) (hbase : base ≤ w.heap.size) :
    ∃ A' c' w', (Builtin.append_ #[22, 22] ty #[.slice A m c, .slice A2 m2 c2]).run Try.prog w = .ok (.slice A' (m + m2) c') w' ∧ Zo w' base A' (m + m2) c' (l ++ l2) ∧ Below base w w' := by
  obtain ⟨i, hi, hz, hs1, hb1⟩ := info_parts zint_info
  rcases Nat.eq_zero_or_pos m2 with h0 | hp
  · subst h0
    have hl2 : l2 = [] := List.eq_nil_of_length_eq_zero hm2.symm
    subst hl2
    rcases ho.form with ⟨e, _⟩ | ⟨g, rfl, hbg, hlt, cur, hh, h1, h3, h4, h5⟩
    · exact absurd e hA
    · refine ⟨some ⟨g, 0, none⟩, c, w, ?_, by simpa using ho, Below.refl _ _⟩
      cases A2 <;> simp [Builtin.append_, run_underlying Try.underlying22, sizeOf, typeInfo, hi, Builtin.lenOf, Builtin.firstCells, storeCells, loadCells, loadCellsFrom, h1]
  · obtain ⟨b, off, rfl, _⟩ := h2 0 (by omega)
    have hcell : ∀ j u, (l2.map (Value.int .i64))[j]? = some u → w.cell? ((⟨b, off, none⟩ : Addr).add j) = some u := by
      intro j u hj
      obtain ⟨hj2, rfl⟩ := z_get hj
      obtain ⟨b', off', e, _, hc⟩ := h2 j hj2
      cases e
      rw [z_add]
      exact hc
    obtain ⟨v', w', hrun, h3, h4, _, _⟩ := run_append_own_at (P := Try.prog) w base 22 ty 3 i _ 1 8 Try.underlying22 hi hz hs1 hb1 rfl (by decide) _ m _ ho ⟨b, off, none⟩ m2 c2 (l2.map (Value.int .i64)) (by simp [hm2]) hcell
      (by intro u hu; obtain ⟨k, _, rfl⟩ := List.mem_map.1 hu; rfl) (by simp only [maxLen]; omega) (by omega) hbase
    obtain ⟨A'', c'', rfl⟩ := own_slice h3
    exact ⟨A'', c'', w', hrun, by unfold Zo; rw [List.map_append]; exact h3, (Below.refl _ _).grown h4 hbase fun k hk => (ho.lt k hk).1⟩
theorem wpList_appZ {w : World} {ops : Array Oper} {rest : List Oper} {o : Oper} {a : Act} {Q : Exit → Act → World → Prop} (hgd : o.guard = none) (s x : Operand)
    (ho : o.op = .call { callee := .builtin .append, args := #[s, x], argTypes := #[22, 22] })
    (base : Nat) (A : Option Addr) (m c : Nat) (l : List Int) (hs : a.eval s = .slice A m c) (hown : Zo w base A m c l) (hA : A ≠ none) (A2 : Option Addr) (B m2 c2 : Nat) (l2 : List Int) (hx : a.eval x = .slice A2 m2 c2) (h2 : Ri7 w B A2 l2) (hm2 : m2 = l2.length) (hsz : m + m2 ≤ 2000000) (hbase : base ≤ w.heap.size)
    (h : ∀ A' c' w', Zo w' base A' (m + m2) c' (l ++ l2) → Below base w w' → wpList Try.prog ops Q rest (a.put o.dst (.slice A' (m + m2) c')) w') :
    wpList Try.prog ops Q (o :: rest) a w := by
  refine wpList_plain hgd fun K hK => ?_
  obtain ⟨A', c', w', hrun, h3, h4⟩ := run_appZ o.type base A m c l hown hA A2 B m2 c2 l2 h2 hm2 hsz hbase
  unfold Oper.wp execOp
  simp only [ho, resolve, invoke, builtin, Sem.run_bind, Sem.run_pure, Result.andThen_ok, List.map_toArray, List.map_cons, List.map_nil, hs, hx, hrun]
  exact hK _ _ (h A' c' w' h3 h4)
theorem zo_empty (w : World) : Zo (w.alloc (.cells #[] 3)) w.heap.size (some ⟨w.heap.size, 0, none⟩) 0 0 [] := zo_block (Nat.le_refl _) (heap_alloc_new w _) (Nat.le_refl _) (by simp [maxLen]) rfl rfl rfl
theorem eql_nilZ (A : Option Addr) (m c : Nat) (w : World) : (binOp .eql 22 (.slice A m c) (.slice none 0 0)).run Try.prog w = .ok (.bool A.isNone) w := by
  have h : ∀ d, (Op.equalIn (d + 1) 22 (.slice A m c) (.slice none 0 0)).run Try.prog w = .ok A.isNone w := fun d => by
    cases A <;> simp [Op.equalIn, run_underlying Try.underlying22]
  have h2 : (Op.equal 22 (.slice A m c) (.slice none 0 0)).run Try.prog w = .ok A.isNone w := h 9999
  simp [binOp, h2]
set_option maxRecDepth 100000 in
set_option maxHeartbeats 1000000 in
theorem zclone_any (A : Option Addr) (m c : Nat) (l : List Int) (w : World) (hA : Ri7 w w.heap.size A l) (hm : m = l.length) (h6 : m ≤ 1000000) :
    Calls Try.prog 24 #[.slice A m c] w fun e w' => ∃ A' c', e = .returned (.slice A' m c') ∧ Zo w' w.heap.size A' m c' l ∧ Below w.heap.size w w' := by
  have hb := (Below.refl w.heap.size w).alloc (Nat.le_refl _) (.cells #[] 3)
  have hA1 := hA.below hb (Nat.le_refl _)
  have he := zo_empty w
  cases A with
  | none =>
    have hl : l = [] := by
      rcases l with _ | ⟨x, l⟩
      · rfl
      · obtain ⟨b, off, e, _⟩ := hA 0 (by simp)
        cases e
    subst hl
    simp at hm
    subst hm
    have en := fun w => eql_nilZ none 0 c w
    simp only [Option.isNone_none] at en
    go_enter Try.func24, Try.ntmps24
    go_wp2
    go_ret
    exact ⟨none, 0, rfl, zo_nil _ _, Below.refl _ _⟩
  | some a =>
    have en := fun w => eql_nilZ (some a) m c w
    simp only [Option.isNone_some] at en
    have HM := Lib.hid hm
    clear hm
    go_enter Try.func24, Try.ntmps24
    go_wp2_with (at_builtin; with_reducible refine wpList_appZ rfl (.tmp 5) (.tmp 6) rfl w.heap.size _ 0 0 [] rfl he (by simp) (some a) w.heap.size m c l rfl hA1 HM.out (by omega) (by simp) ?_; intro A2 c2 w2 ho hb2)
    go_ret
    simp only [Nat.zero_add, List.nil_append] at ho
    exact ⟨A2, c2, rfl, ho, hb.trans hb2⟩
/-- BinarySearch of numbers that rise. -/
theorem search_any (A : Option Addr) (m c : Nat) (l : List Int) (x : Int) (w : World) (hA : Ri7 w w.heap.size A l) (hm : m = l.length) (h6 : m ≤ 1000000) (hu : l.Pairwise (· < ·)) :
    Calls Try.prog 30 #[.slice A m c, .int .i64 x] w fun e w' => e = .returned (.tuple #[.int .i64 (lessP l x : Nat), .bool (l.contains x)]) ∧ Below w.heap.size w w' := by
  rcases l with _ | ⟨y, l⟩
  · simp at hm
    subst hm
    refine Calls.mono (Any.slices_BinarySearch_int_empty Try.lays2_25 A c x w : Calls Try.prog 30 _ w _) ?_
    rintro e w' ⟨rfl, rfl⟩
    exact ⟨rfl, Below.refl _ _⟩
  · obtain ⟨b, off, rfl, hb, _⟩ := hA 0 (by simp)
    have h := Any.slices_BinarySearch_int Try.lays2_25 b off m c (y :: l) x w (by omega) (by omega) (fun j hj => by
      obtain ⟨b', off', e, _, hc⟩ := hA j hj
      cases e
      exact hc) (by
        rw [hm, List.take_length]
        exact hu.imp fun h => Int.le_of_lt h)
    rw [hm, List.take_length] at h
    subst hm
    refine Calls.mono (h : Calls Try.prog 30 _ w _) ?_
    rintro e w' ⟨rfl, q, rfl⟩
    exact ⟨rfl, below_drewN (Below.refl _ _) q⟩
theorem zo_of_cells {w : World} {base g m c : Nat} {l : List Int} {cur : Array Value} (hb : base ≤ g) (hh : w.heap[g]? = some (.cells cur 3 (0, 0))) (h1 : m ≤ c) (h2 : c ≤ maxLen) (h3 : cur.size = c) (hm : m = l.length) (h4 : ∀ j, j < m → cur[j]? = some (.int .i64 (l.getD j 0))) : Zo w base (some ⟨g, 0, none⟩) m c l := by
  refine zo_block hb hh h1 h2 h3 ?_ hm
  refine List.ext_getElem? fun j => ?_
  rcases Nat.lt_or_ge j m with h | h
  · rw [List.getElem?_take_of_lt h, Array.getElem?_toList, h4 j h, z_get' (by omega)]
  · rw [List.getElem?_eq_none (by simp; omega), List.getElem?_eq_none (by simp; omega)]
/-- Its cells, as they lie. -/
theorem zo_cells {cur : Array Value} {m : Nat} {l : List Int} (h4 : cur.toList.take m = l.map (Value.int .i64)) (hm : m = l.length) {j : Nat} (hj : j < m) : cur[j]? = some (.int .i64 (l.getD j 0)) := by
  rw [← Array.getElem?_toList, ← List.getElem?_take_of_lt hj, h4, z_get' (by omega)]
/-- One number is cut out of a row of the call's own. -/
theorem delete_any (A : Option Addr) (m c : Nat) (l : List Int) (i base : Nat) (w : World) (ho : Zo w base A m c l) (hi : i < m) :
    Calls Try.prog 25 #[.slice A m c, .int .i64 i, .int .i64 ((i : Int) + 1)] w fun e w' => ∃ A', e = .returned (.slice A' (m - 1) c) ∧ Zo w' base A' (m - 1) c (l.take i ++ l.drop (i + 1)) ∧ Below base w w' := by
  have hl := ho.len
  rcases ho.form with ⟨_, h0, _⟩ | ⟨g, rfl, hbg, hlt, cur, hh, h1, h2, h3, h4⟩
  · omega
  · have hH : Go.Sort.Holds (Value.int .i64) w g 0 l.toArray := fun j hj => by
      have hj' : j < m := by rw [hl]; simpa using hj
      rw [Nat.zero_add]
      refine ⟨?_, by simp [World.frozen?, hh]⟩
      simp only [World.cell?, hh, zo_cells h4 hl hj']
      have hj2 : j < l.length := by omega
      simp [List.getD, hj2]
    have h := Any.slices_Delete_int Try.lays2_23 g 0 c i (i + 1) l w hH (by omega) (by simp only [maxLen] at h2; omega) (by omega) (by omega)
    rw [← hl] at h
    have hw1 : (((i + 1 : Nat)) : Int) = (i : Int) + 1 := by omega
    rw [hw1] at h
    refine Calls.mono (h : Calls Try.prog 25 _ w _) ?_
    rintro e w' ⟨rfl, q, rfl⟩
    have e1 : m - (i + 1 - i) = m - 1 := by omega
    refine ⟨some ⟨g, 0, none⟩, by rw [e1], ?_, ?_⟩
    · have hh' : (Go.Sort.putRow (Value.int .i64) (Go.Sort.ahead w q) g 0 (l.take i ++ l.drop (i + 1) ++ List.replicate (i + 1 - i) 0).toArray).heap[g]? = some (.cells (Go.Sort.putCells (Value.int .i64) 0 (l.take i ++ l.drop (i + 1) ++ List.replicate (i + 1 - i) 0).toArray cur) 3 (0, 0)) := by
        simp [Go.Sort.putRow, Go.Sort.mapBlock, Go.Sort.ahead, Array.getElem?_modify, hh, Go.Sort.onCells]
      refine zo_of_cells hbg hh' (by omega) h2 (by simp [Go.Sort.putCells, h3]) (by simp; omega) fun j hj => ?_
      have hjl : j < (l.take i ++ l.drop (i + 1)).length := by simp; omega
      have hjc : j < cur.size := by omega
      simp only [Go.Sort.putCells]
      rw [Array.getElem?_mapIdx, Array.getElem?_eq_getElem hjc]
      simp only [Option.map_some, Nat.sub_zero, Nat.zero_le, true_and, Nat.zero_add]
      rw [if_pos (by simp at hjl ⊢; omega)]
      congr 2
      rw [getElem!_pos _ j (by simp at hjl ⊢; omega)]
      simp only [List.getElem_toArray]
      rw [List.getElem_append_left hjl]
      unfold List.getD
      rw [List.getElem?_eq_getElem hjl]
      rfl
    · refine ⟨rfl, rfl, rfl, by simp [Go.Sort.putRow, Go.Sort.mapBlock, Go.Sort.ahead], fun k hk => ?_⟩
      have hne : g ≠ k := by omega
      simp [Go.Sort.putRow, Go.Sort.mapBlock, Go.Sort.ahead, Array.getElem?_modify, hne]
/-- The cells with these from a place on. -/
def layA (cur : Array Value) : Nat → List Value → Array Value
  | _, [] => cur
  | o, v :: r => layA (cur.setIfInBounds o v) (o + 1) r
theorem layA_size : ∀ (vs : List Value) (cur : Array Value) (o : Nat), (layA cur o vs).size = cur.size
  | [], _, _ => rfl
  | v :: r, cur, o => by rw [layA, layA_size r]; simp
theorem layA_get : ∀ (vs : List Value) (cur : Array Value) (o j : Nat), o + vs.length ≤ cur.size → (layA cur o vs)[j]? = if o ≤ j ∧ j < o + vs.length then vs[j - o]? else cur[j]?
  | [], cur, o, j, _ => by simp [layA]; omega
  | v :: r, cur, o, j, h => by
    simp only [List.length_cons] at h
    rw [layA, layA_get r _ (o + 1) j (by simp; omega)]
    by_cases hj : j = o
    · subst hj
      rw [if_neg (by omega), if_pos (by simp), Nat.sub_self, Array.getElem?_setIfInBounds_self_of_lt (by omega)]
      rfl
    · by_cases h1 : o + 1 ≤ j ∧ j < o + 1 + r.length
      · rw [if_pos h1, if_pos (by simp; omega)]
        have : j - o = (j - (o + 1)) + 1 := by omega
        rw [this, List.getElem?_cons_succ]
      · rw [if_neg h1, if_neg (by simp; omega), Array.getElem?_setIfInBounds_ne (by omega)]
theorem setCells_at (b : Nat) (t : TypeId) : ∀ (vs : List Value) (o : Nat) (w : World) (cur : Array Value), w.heap[b]? = some (.cells cur t (0, 0)) → (w.setCells b o vs).heap[b]? = some (.cells (layA cur o vs) t (0, 0))
  | [], _, _, _, h => h
  | v :: r, o, w, cur, h => by
    rw [World.setCells, layA]
    exact setCells_at b t r (o + 1) _ _ (by simp [World.setCell, Array.getElem?_modify, h])
theorem setCells_below {B : Nat} (b : Nat) (hb : B ≤ b) : ∀ (vs : List Value) (o : Nat) (w : World), Below B w (w.setCells b o vs)
  | [], _, _ => Below.refl _ _
  | v :: r, o, w => by
    rw [World.setCells]
    exact ((Below.refl B w).setCell (p := ⟨b, o, none⟩) hb v).trans (setCells_below b hb r (o + 1) _)
/-- One number is put into a row of the call's own; x lies in a block of its own. -/
theorem insert_any (A : Option Addr) (m c : Nat) (l : List Int) (i base vb : Nat) (x : Int) (w : World) (ho : Zo w base A m c l) (hi : i ≤ m) (hm : m ≤ 1000000) (hbase : base ≤ w.heap.size) (hv : w.heap[vb]? = some (.cells #[.int .i64 x] 3 (0, 0))) (hvb : A ≠ some ⟨vb, 0, none⟩) :
    Calls Try.prog 23 #[.slice A m c, .int .i64 i, .slice (some ⟨vb, 0, none⟩) 1 1] w fun e w' => ∃ A' c', e = .returned (.slice A' (m + 1) c') ∧ Zo w' base A' (m + 1) c' (l.take i ++ x :: l.drop i) ∧ Below base w w' := by
  have hl := ho.len
  have hvs : ∀ j v, [Value.int .i64 x][j]? = some v → w.cell? ⟨vb, 0 + j, none⟩ = some v := fun j v hj => by
    rcases j with _ | j
    · simp at hj; subst hj; simp [World.cell?, hv]
    · simp at hj
  have h1v : ∀ v ∈ [Value.int .i64 x], v.oneCell' = true := by intro v hv; simp at hv; subst hv; rfl
  have h1c : ∀ v ∈ l.map (Value.int .i64), v.oneCell' = true := by intro v hv; obtain ⟨k, _, rfl⟩ := List.mem_map.1 hv; rfl
  have hlen : (l.take i ++ x :: l.drop i).length = m + 1 := by simp; omega
  have hget : ∀ j, j < m + 1 → (l.take i ++ x :: l.drop i).getD j 0 = if j < i then l.getD j 0 else if j = i then x else l.getD (j - 1) 0 := fun j hj => by
    have hti : (l.take i).length = i := by simp; omega
    unfold List.getD
    by_cases h1 : j < i
    · rw [if_pos h1, List.getElem?_append_left (by omega), List.getElem?_take_of_lt h1]
    · rw [if_neg h1, List.getElem?_append_right (by omega), hti]
      by_cases h2 : j = i
      · subst h2; rw [if_pos rfl, Nat.sub_self]; rfl
      · rw [if_neg h2, show j - i = (j - 1 - i) + 1 by omega, List.getElem?_cons_succ, List.getElem?_drop, show i + (j - 1 - i) = j - 1 by omega]
  have hm2 : m + 1 ≤ maxLen := by simp only [maxLen]; omega
  have fit : ∀ (old : Nat) (cs : List Value), cs.length = m + 1 → (∀ j, j < m + 1 → cs[j]? = some (.int .i64 ((l.take i ++ x :: l.drop i).getD j 0))) →
      ∀ (W' : World) (cur : Array Value), W'.heap[w.heap.size]? = some (.cells cur 3 (0, 0)) → cur.size = grownCap w (m + 1) old 3 → (∀ j, j < m + 1 → cur[j]? = cs[j]?) → Zo W' base (some ⟨w.heap.size, 0, none⟩) (m + 1) (grownCap w (m + 1) old 3) (l.take i ++ x :: l.drop i) :=
    fun old cs hcl hc W' cur hh hsz hcur => zo_of_cells hbase hh (grownCap_ge w (m + 1) old 3) (grownCap_le_maxLen w (m + 1) old _ hm2) hsz hlen.symm fun j hj => (hcur j hj).trans (hc j hj)
  have hend : i = m → ∀ j, j < m + 1 → (l.map (Value.int .i64) ++ [Value.int .i64 x])[j]? = some (.int .i64 ((l.take i ++ x :: l.drop i).getD j 0)) := by
    intro e j hj
    rw [hget j hj, e]
    by_cases h1 : j < m
    · rw [if_pos h1, List.getElem?_append_left (by simp; omega), z_get' (by omega)]
    · rw [if_neg h1, if_pos (by omega), List.getElem?_append_right (by simp; omega)]
      have : j - (l.map (Value.int .i64)).length = 0 := by simp; omega
      rw [this]; rfl
  have zsz : ∀ (old : Nat) (cs : List Value), cs.length = m + 1 → (cs.toArray ++ Builtin.zeroCells (Value.int .i64 0).cells (grownCap w (m + 1) old 3 - (m + 1))).size = grownCap w (m + 1) old 3 := by
    intro old cs hc
    have hge := grownCap_ge w (m + 1) old 3
    rw [Array.size_append, size_zeroCells]
    simp [Value.cells, hc]
    omega
  have atEnd : i = m → ∀ (c0 : Nat), c0 < m + 1 → (∀ a, A = some a → ∀ j v, (l.map (Value.int .i64))[j]? = some v → w.cell? (a.add j) = some v) → (A = none → m = 0) → m ≤ c0 → Calls Try.prog 23 #[.slice A m c0, .int .i64 i, .slice (some ⟨vb, 0, none⟩) 1 1] w fun e w' => ∃ A' c', e = .returned (.slice A' (m + 1) c') ∧ Zo w' base A' (m + 1) c' (l.take i ++ x :: l.drop i) ∧ Below base w w' := by
    intro e c0 hc0 hcs hnil hmc
    have h := Any2.slices_Insert_int_end_grow Try.lays2_21 A m c0 vb 0 1 1 (l.map (Value.int .i64)) [.int .i64 x] w (by omega) hmc hc0 (by omega) (by simp [hl]) rfl hnil hcs hvs h1v
    rw [← e] at h
    rw [← e]
    refine Calls.mono (h : Calls Try.prog 23 _ w _) ?_
    rintro e2 w' ⟨rfl, rfl⟩
    have hcl : (l.map (Value.int .i64) ++ [Value.int .i64 x]).length = m + 1 := by simp [hl]
    rw [e]
    refine ⟨_, _, rfl, ?_, ⟨rfl, rfl, rfl, by simp, fun k hk => Below.heap_alloc _ _ _ (by simp; omega)⟩⟩
    have := fit c0 _ hcl (hend e) (w.drew.alloc (.cells ((l.map (Value.int .i64) ++ [Value.int .i64 x]).toArray ++ Builtin.zeroCells (Value.int .i64 0).cells (grownCap w (m + 1) c0 3 - (m + 1))) 3)) _ (heap_alloc_new w.drew _) (zsz c0 _ hcl) (fun j hj => by rw [Array.getElem?_append_left (by simp [hl]; omega), List.getElem?_toArray])
    rw [e] at this
    exact this
  rcases ho.form with ⟨rfl, rfl, rfl, rfl⟩ | ⟨g, rfl, hbg, hlt, cur, hh, h1, h2, h3, h4⟩
  · exact atEnd (by omega) 0 (by omega) (fun a e => by cases e) (fun _ => rfl) (Nat.le_refl _)
  · have hne : vb ≠ g := fun e => hvb (by rw [e])
    have hcs : ∀ j v, (l.map (Value.int .i64))[j]? = some v → w.cell? ⟨g, 0 + j, none⟩ = some v := fun j v hj => by
      obtain ⟨hj2, rfl⟩ := z_get hj
      rw [Nat.zero_add]
      simp only [World.cell?, hh]
      exact zo_cells h4 hl (by omega)
    have hcsz : ∀ j, j < c → (w.cell? ⟨g, 0 + j, none⟩).isSome = true := fun j hj => by
      rw [Nat.zero_add]
      simp only [World.cell?, hh, Array.getElem?_eq_getElem (show j < cur.size by omega)]
      rfl
    have hfz : ∀ j, w.frozen? ⟨g, j, none⟩ = false := fun j => by simp [World.frozen?, hh]
    have hc63 : c ≤ 9223372036854775807 := by simp only [maxLen] at h2; omega
    by_cases hr : m + 1 ≤ c
    · by_cases hie : i = m
      · have h := Any2.slices_Insert_int_end_room Try.lays2_21 g 0 m c vb 0 1 1 [.int .i64 x] w (by omega) hr hc63 rfl (fun j hj => by rw [Nat.add_assoc]; exact hcsz _ (by omega)) (fun j hj => hfz _) hvs h1v
        subst hie
        refine Calls.mono (h : Calls Try.prog 23 _ w _) ?_
        rintro e2 w' ⟨rfl, rfl⟩
        refine ⟨_, _, rfl, ?_, setCells_below g hbg _ _ _⟩
        refine zo_of_cells hbg (setCells_at g _ _ _ _ _ hh) hr h2 (by rw [layA_size]; exact h3) hlen.symm fun j hj => ?_
        rw [layA_get _ _ _ _ (by simp; omega), ← hend rfl j hj]
        simp only [Nat.zero_add, List.length_cons, List.length_nil]
        by_cases hj2 : j < i
        · rw [if_neg (by omega), List.getElem?_append_left (by simp; omega), z_get' (by omega)]
          exact zo_cells h4 hl hj2
        · rw [if_pos (by omega), List.getElem?_append_right (by simp; omega)]
          congr 1
          simp; omega
      · have h := Any2.slices_Insert_int_shift Try.lays2_21 g 0 m c i vb 0 1 1 (l.map (Value.int .i64)) [.int .i64 x] w (by omega) (by omega) hr hc63 hne (by simp [hl]) rfl hcs (fun j hj => hcsz j (by omega)) (fun j hj => hfz _) hvs h1c h1v
          3 3 1 c (by simp [World.shape?, hv]) (by simp [World.shape?, hh, h3]) (by omega) (by simp [World.frozen?, hv]) (by simp [World.frozen?, hv])
        refine Calls.mono (h : Calls Try.prog 23 _ w _) ?_
        rintro e2 w' ⟨rfl, rfl⟩
        refine ⟨_, _, rfl, ?_, ((Below.refl _ w).drew.trans (setCells_below g hbg _ _ _)).trans (setCells_below g hbg _ _ _)⟩
        have hdl : ((l.map (Value.int .i64)).drop i).length = m - i := by simp [hl]
        refine zo_of_cells hbg (setCells_at g _ _ _ _ _ (setCells_at g _ _ _ w.drew _ hh)) hr h2 (by rw [layA_size, layA_size]; exact h3) hlen.symm fun j hj => ?_
        rw [layA_get _ _ _ _ (by rw [layA_size]; simp; omega), layA_get _ _ _ _ (by rw [hdl]; omega), hget j hj, hdl]
        simp only [Nat.zero_add, List.length_cons, List.length_nil]
        by_cases hj2 : j < i
        · rw [if_neg (by omega), if_neg (by omega), if_pos hj2]
          exact zo_cells h4 hl (by omega)
        · rw [if_neg hj2]
          by_cases hj3 : j = i
          · rw [if_pos (by omega), if_pos hj3, hj3, Nat.sub_self]; rfl
          · rw [if_neg (by omega), if_pos (by omega), if_neg hj3, List.getElem?_drop, show i + (j - (i + 1)) = j - 1 by omega, z_get' (by omega)]
    · by_cases hie : i = m
      · exact atEnd hie c (by omega) (fun a e j v hj => by cases e; rw [z_add]; exact hcs j v hj) (fun e => by cases e) h1
      · have h := Any2.slices_Insert_int_grow Try.lays2_21 g 0 m c i vb 0 1 1 (l.map (Value.int .i64)) [.int .i64 x] w (by omega) (by omega) h1 (by omega) (by omega) (by simp [hl]) rfl hcs hvs h1c h1v
        refine Calls.mono (h : Calls Try.prog 23 _ w _) ?_
        rintro e2 w' ⟨rfl, rfl⟩
        have b1 : Below base w (w.alloc (.cells (((l.map (Value.int .i64)).take i).toArray ++ Builtin.zeroCells (Value.int .i64 0).cells (m + 1 - i) ++ Builtin.zeroCells (Value.int .i64 0).cells (grownCap w (m + 1) c 3 - (m + 1))) 3)) := (Below.refl _ w).alloc hbase _
        refine ⟨_, _, rfl, ?_, (b1.drew.trans (setCells_below w.heap.size hbase _ _ _)).drew.trans (setCells_below w.heap.size hbase _ _ _)⟩
        have hdl : ((l.map (Value.int .i64)).drop i).length = m - i := by simp [hl]
        have hge := grownCap_ge w (m + 1) c 3
        have hsz : (((l.map (Value.int .i64)).take i).toArray ++ Builtin.zeroCells (Value.int .i64 0).cells (m + 1 - i) ++ Builtin.zeroCells (Value.int .i64 0).cells (grownCap w (m + 1) c 3 - (m + 1))).size = grownCap w (m + 1) c 3 := by
          rw [Array.size_append, Array.size_append, size_zeroCells, size_zeroCells]
          simp [Value.cells]
          omega
        refine zo_of_cells (cur := layA (layA (((l.map (Value.int .i64)).take i).toArray ++ Builtin.zeroCells (Value.int .i64 0).cells (m + 1 - i) ++ Builtin.zeroCells (Value.int .i64 0).cells (grownCap w (m + 1) c 3 - (m + 1))) i [.int .i64 x]) (i + 1) ((l.map (Value.int .i64)).drop i)) hbase ?_ hge (grownCap_le_maxLen w (m + 1) c _ hm2) (by rw [layA_size, layA_size]; exact hsz) hlen.symm fun j hj => ?_
        · have q := setCells_at w.heap.size 3 [.int .i64 x] i _ _ (heap_alloc_new w (.cells (((l.map (Value.int .i64)).take i).toArray ++ Builtin.zeroCells (Value.int .i64 0).cells (m + 1 - i) ++ Builtin.zeroCells (Value.int .i64 0).cells (grownCap w (m + 1) c 3 - (m + 1))) 3))
          exact setCells_at w.heap.size _ _ _ (World.drew _) _ q
        · rw [layA_get _ _ _ _ (by rw [layA_size, hdl, hsz]; omega), layA_get _ _ _ _ (by rw [hsz]; simp; omega), hget j hj, hdl]
          simp only [List.length_cons, List.length_nil]
          by_cases hj2 : j < i
          · rw [if_neg (by omega), if_neg (by omega), if_pos hj2, Array.append_assoc, Array.getElem?_append_left (by simp; omega), List.getElem?_toArray, List.getElem?_take_of_lt hj2, z_get' (by omega)]
          · rw [if_neg hj2]
            by_cases hj3 : j = i
            · rw [if_neg (by omega), if_pos (by omega), if_pos hj3, hj3, Nat.sub_self]; rfl
            · rw [if_pos (by omega), if_neg hj3, List.getElem?_drop, show i + (j - (i + 1)) = j - 1 by omega, z_get' (by omega)]
end Go.Proofs.Ytjbhliabmaipbaa
