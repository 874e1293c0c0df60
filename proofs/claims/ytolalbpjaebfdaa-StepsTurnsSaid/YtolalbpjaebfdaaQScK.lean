/-
  Locks (api.Lock) in memory: rows that are read, and rows that the call owns.
-/
import Derived.Test.YtolalbpjaebfdaaQScB
namespace Go.Proofs.Ytolalbpjaebfdaa
open Go.RowKit Go.Shelf
set_option linter.unusedVariables false
set_option linter.unusedSimpArgs false
structure Kn where
  n : Int
  o : Int
  q : List Int
instance : DecidableEq Kn := fun a b => decidable_of_iff (a.n = b.n ∧ (a.o = b.o ∧ a.q = b.q)) (by cases a; cases b; simp)
def kn0 : Kn := ⟨0, 0, []⟩
abbrev Kw := Kn × (Option Addr × Nat)
def kw0 : Kw := (kn0, (none, 0))
def kwC (x : Kw) : Array Value := #[.int .i64 x.1.n, .int .i64 x.1.o, .slice x.2.1 x.1.q.length x.2.2]
def kwV (x : Kw) : Value := .agg (kwC x)
theorem kw_size (x : Kw) : (kwC x).size = 3 := rfl
theorem kw_len3 (x : Kw) : (kwC x).toList.length = 3 := rfl
theorem kw_inf (x : Kw) : (Try.prog.info? 48).map (·.size) = some (kwC x).size := by rw [kw_size]; kernel_rfl
theorem kw_infL (x : Kw) : (Try.prog.info? 48).map (·.size) = some (kwC x).toList.length := by rw [Array.length_toList]; exact kw_inf x
theorem kw_one (x : Kw) : (kwC x).all (·.oneCell') = true := by simp [kwC, Value.oneCell']
theorem kw_oneL (x : Kw) : ∀ u ∈ (kwC x).toList, u.oneCell' = true := by
  intro u hu
  simp only [kwC, List.mem_cons, List.not_mem_nil, or_false] at hu
  rcases hu with rfl | rfl | rfl <;> rfl
theorem kw_info3 : (Try.prog.info? 48).map (fun i => (i.zero, i.size, i.bytes)) = some (some (kwV kw0), 3, 40) := by kernel_rfl
def RsK (w : World) (B : Nat) (A : Option Addr) (L : List Kw) : Prop := ∀ k, k < L.length → ∃ b off, A = some ⟨b, off, none⟩ ∧ b < B ∧ w.rangeAt b (off + k * 3) (kwC (L.getD k kw0)).toList
theorem RsK.below {w w' : World} {B B' : Nat} {A : Option Addr} {L : List Kw} (h : RsK w B A L) (hb : Below B' w w') (hB : B ≤ B') : RsK w' B A L := fun k hk => by
  obtain ⟨b, off, e, h1, h2⟩ := h k hk
  exact ⟨b, off, e, h1, range_below3 h2 hb (Nat.lt_of_lt_of_le h1 hB)⟩
theorem RsK.more {w : World} {B B' : Nat} {A : Option Addr} {L : List Kw} (h : RsK w B A L) (hB : B ≤ B') : RsK w B' A L := fun k hk => by
  obtain ⟨b, off, e, h1, h2⟩ := h k hk
  exact ⟨b, off, e, by omega, h2⟩
theorem rs_nilK (w : World) (B : Nat) (A : Option Addr) : RsK w B A [] := fun k hk => absurd hk (by simp)
def flatK (L : List Kw) : List Value := L.flatMap fun x => (kwC x).toList
theorem flatK_cons (x : Kw) (L : List Kw) : flatK (x :: L) = (kwC x).toList ++ flatK L := by simp [flatK]
theorem flatK_snoc (L : List Kw) (x : Kw) : flatK (L ++ [x]) = flatK L ++ (kwC x).toList := by simp [flatK]
theorem flatK_append (L M : List Kw) : flatK (L ++ M) = flatK L ++ flatK M := by simp [flatK]
theorem flatK_len : ∀ (L : List Kw), (flatK L).length = L.length * 3
  | [] => rfl
  | x :: L => by
    rw [flatK_cons, List.length_append, kw_len3, flatK_len L, List.length_cons]; omega
theorem flatK_get : ∀ (L : List Kw) (k j : Nat), k < L.length → j < 3 → (flatK L)[k * 3 + j]? = (kwC (L.getD k kw0))[j]?
  | [], k, j, h, _ => absurd h (by simp)
  | x :: L, 0, j, _, hj => by
    rw [flatK_cons, Nat.zero_mul, Nat.zero_add, List.getElem?_append_left (by rw [kw_len3]; exact hj), Array.getElem?_toList]
    rfl
  | x :: L, k + 1, j, h, hj => by
    rw [flatK_cons, List.getElem?_append_right (by rw [kw_len3]; omega), kw_len3, show (k + 1) * 3 + j - 3 = k * 3 + j by omega, flatK_get L k j (by simpa using h) hj]
    simp [List.getD]
theorem flatK_one (L : List Kw) : ∀ u ∈ flatK L, u.oneCell' = true := by
  intro u hu
  obtain ⟨x, _, hx⟩ := List.mem_flatMap.1 hu
  exact kw_oneL x u hx
theorem flatK_take : ∀ (k : Nat) (L : List Kw), (flatK L).take (k * 3) = flatK (L.take k)
  | 0, L => by simp [flatK]
  | k + 1, [] => by simp [flatK]
  | k + 1, x :: L => by
    rw [flatK_cons, List.take_succ_cons, flatK_cons, List.take_append, kw_len3, show (k + 1) * 3 - 3 = k * 3 by omega, flatK_take k L, List.take_of_length_le (by rw [kw_len3]; omega)]
theorem flatK_drop : ∀ (k : Nat) (L : List Kw), (flatK L).drop (k * 3) = flatK (L.drop k)
  | 0, L => by simp [flatK]
  | k + 1, [] => by simp [flatK]
  | k + 1, x :: L => by
    rw [flatK_cons, List.drop_succ_cons, List.drop_append, kw_len3, show (k + 1) * 3 - 3 = k * 3 by omega, flatK_drop k L, List.drop_of_length_le (by rw [kw_len3]; omega), List.nil_append]
theorem flatK_set (y : Kw) (L : List Kw) (k : Nat) (h : k < L.length) : flatK (L.set k y) = (flatK L).take (k * 3) ++ (kwC y).toList ++ (flatK L).drop (k * 3 + 3) := by
  rw [List.set_eq_take_append_cons_drop, if_pos h, flatK_append, flatK_cons, flatK_take, show k * 3 + 3 = (k + 1) * 3 by omega, flatK_drop, List.append_assoc]
def RoK (w : World) (base : Nat) (A : Option Addr) (m c : Nat) (L : List Kw) : Prop := w.ownsRow base 48 3 (.slice A m c) m (flatK L)
section
variable {w w' : World} {base B B' m c : Nat} {A : Option Addr} {L : List Kw}
theorem RoK.len (h : RoK w base A m c L) : m = L.length := by have := h.1; rw [flatK_len] at this; omega
theorem RoK.down (h : RoK w base A m c L) {b : Nat} (hb : b ≤ base) : RoK w b A m c L := own_base h hb
theorem RoK.below (h : RoK w base A m c L) (hb : Below B w w') (hB : w.heap.size ≤ B) : RoK w' base A m c L := ownsRow_below h hb hB
theorem RoK.grown (h : RoK w base A m c L) {row : Option Nat} (hg : w.grownBy w' row) (hr : ∀ g, A = some ⟨g, 0, none⟩ → row ≠ some g) : RoK w' base A m c L := by
  refine ⟨h.1, ?_⟩
  rcases h.2 with h0 | ⟨g', cap, cur, hv, hb, hh, r⟩
  · exact .inl h0
  · refine .inr ⟨g', cap, cur, hv, hb, (hg.block g' (Array.getElem?_eq_some_iff.1 hh).1 (fun e => ?_)).trans hh, r⟩
    injection hv with e1 _ _
    exact hr g' e1 e.symm
theorem RoK.but {g : Nat} (h : RoK w base A m c L) (n : But g w w') (hg : ∀ g', A = some ⟨g', 0, none⟩ → g ≠ g') : RoK w' base A m c L := by
  refine ⟨h.1, ?_⟩
  rcases h.2 with h0 | ⟨g', cap, cur, hv, hb, hh, r⟩
  · exact .inl h0
  · refine .inr ⟨g', cap, cur, hv, hb, (n.block g' (Array.getElem?_eq_some_iff.1 hh).1 (fun e => ?_)).trans hh, r⟩
    injection hv with e1 _ _
    exact hg g' e1 e.symm
theorem RoK.cap (h : RoK w base A m c L) : m ≤ c := by
  rcases h.2 with ⟨hv, h0⟩ | ⟨g, cap, cur, hv, _, _, hnc, _⟩
  · omega
  · injection hv with _ _ h3
    omega
theorem RoK.rs (h : RoK w base A m c L) : RsK w w.heap.size A L := fun k hk => by
  have hm := h.len
  obtain ⟨g, c', hv, hg, hcs⟩ := own_head h (by omega)
  injection hv with hA _ _
  refine ⟨g, 0, hA, hg, fun j v hv => ?_⟩
  have hj : j < 3 := by
    rcases Nat.lt_or_ge j 3 with h1 | h1
    · exact h1
    · rw [List.getElem?_eq_none (by rw [kw_len3]; exact h1)] at hv; cases hv
  rw [Nat.zero_add]
  exact hcs _ _ ((flatK_get L k j hk hj).trans (by rw [← Array.getElem?_toList]; exact hv))
theorem ro_nilK (w : World) (base : Nat) : RoK w base none 0 0 [] := World.ownsRow_nil w base _ 3
theorem RoK.form (h : RoK w base A m c L) : (A = none ∧ m = 0 ∧ c = 0 ∧ L = []) ∨ ∃ g, A = some ⟨g, 0, none⟩ ∧ base ≤ g ∧ g < w.heap.size ∧ ∃ cur, w.heap[g]? = some (.cells cur 48 (0, 0)) ∧ m ≤ c ∧ c ≤ maxLen ∧ cur.size = c * 3 ∧ cur.toList.take (m * 3) = flatK L := by
  have hl := h.len
  rcases h.2 with ⟨hv, h0⟩ | ⟨g, cap, cur, hv, hg, hh, h1, h2, h3, h4⟩
  · injection hv with e1 e2 e3
    exact .inl ⟨e1, h0, e3, List.eq_nil_of_length_eq_zero (by omega)⟩
  · injection hv with e1 _ e3
    subst e3
    exact .inr ⟨g, e1, hg, (Array.getElem?_eq_some_iff.1 hh).1, cur, hh, h1, h2, h3, h4⟩
theorem RoK.at0 (h : RoK w base A m c L) (hm : 0 < L.length) : ∃ g, A = some ⟨g, 0, none⟩ ∧ base ≤ g ∧ g < w.heap.size := by
  rcases h.form with ⟨_, _, _, e⟩ | ⟨g, e, h1, h2, _⟩
  · subst e; simp at hm
  · exact ⟨g, e, h1, h2⟩
theorem ro_blockK {g : Nat} {cur : Array Value} (hb : base ≤ g) (hh : w.heap[g]? = some (.cells cur 48 (0, 0))) (h1 : m ≤ c) (h2 : c ≤ maxLen) (h3 : cur.size = c * 3) (h4 : cur.toList.take (m * 3) = flatK L) (hm : m = L.length) : RoK w base (some ⟨g, 0, none⟩) m c L :=
  ⟨by rw [flatK_len, hm], .inr ⟨g, c, cur, rfl, hb, hh, h1, h2, h3, h4⟩⟩
theorem RoK.take {g k : Nat} (h : RoK w base (some ⟨g, 0, none⟩) m c L) (hk : k ≤ m) : RoK w base (some ⟨g, 0, none⟩) k c (L.take k) := by
  have hl := h.len
  rcases h.form with ⟨e, _⟩ | ⟨g', e, hb, _, cur, hh, h1, h2, h3, h4⟩
  · cases e
  · cases e
    refine ro_blockK hb hh (by omega) h2 h3 ?_ (by rw [List.length_take]; omega)
    rw [← flatK_take, ← h4, List.take_take, Nat.min_eq_left (by omega)]
theorem RoK.cellSet {g k j : Nat} {u : Value} {y : Kw} (h : RoK w base (some ⟨g, 0, none⟩) m c L) (hk : k < L.length) (hj : j < 3) (hy : (kwC y).toList = (kwC (L.getD k kw0)).toList.set j u) : RoK (w.setCell ⟨g, k * 3 + j, none⟩ u) base (some ⟨g, 0, none⟩) m c (L.set k y) := by
  have hs := (World.ownsRow.stored h (k * 3 + j) u).1
  have e : (flatK L).set (k * 3 + j) u = flatK (L.set k y) := by
    refine List.ext_getElem? fun i => ?_
    rw [flatK_set y L k hk, hy]
    have hl := flatK_len L
    have hlt : ((flatK L).take (k * 3)).length = k * 3 := by rw [List.length_take]; omega
    have hls : ((kwC (L.getD k kw0)).toList.set j u).length = 3 := by rw [List.length_set]; rfl
    rw [List.getElem?_set]
    rcases Nat.lt_or_ge i (k * 3) with h1 | h1
    · rw [if_neg (by omega), List.append_assoc, List.getElem?_append_left (by omega), List.getElem?_take_of_lt h1]
    · rcases Nat.lt_or_ge i (k * 3 + 3) with h2 | h2
      · rw [List.append_assoc, List.getElem?_append_right (by omega), List.getElem?_append_left (by omega), hlt, List.getElem?_set]
        obtain ⟨q, rfl⟩ : ∃ q, i = k * 3 + q := ⟨i - k * 3, by omega⟩
        rw [flatK_get L k q hk (by omega), Nat.add_sub_cancel_left]
        by_cases hq : j = q
        · subst hq
          rw [if_pos rfl, if_pos rfl, if_pos (by omega), if_pos (by rw [kw_len3]; exact hj)]
        · rw [if_neg (by omega), if_neg hq, Array.getElem?_toList]
      · rw [List.getElem?_append_right (by rw [List.length_append]; omega), List.length_append, hlt, hls, if_neg (by omega), List.getElem?_drop, show k * 3 + 3 + (i - (k * 3 + 3)) = i by omega]
  unfold RoK
  rw [← e]
  exact hs
end
theorem flatK_read {w : World} {B : Nat} {A : Option Addr} {L : List Kw} (h : RsK w B A L) (hL : 0 < L.length) : ∃ b off, A = some ⟨b, off, none⟩ ∧ b < B ∧ ∀ j u, (flatK L)[j]? = some u → w.cell? ((⟨b, off, none⟩ : Addr).add j) = some u := by
  obtain ⟨b, off, e, hb, _⟩ := h 0 hL
  refine ⟨b, off, e, hb, fun j u hj => ?_⟩
  have hjl : j < L.length * 3 := by
    rw [← flatK_len]
    rcases Nat.lt_or_ge j (flatK L).length with h1 | h1
    · exact h1
    · rw [List.getElem?_eq_none h1] at hj; cases hj
  have hk : j / 3 < L.length := by omega
  obtain ⟨b', off', e', _, hc⟩ := h (j / 3) hk
  rw [e] at e'
  cases e'
  have hjj : j = j / 3 * 3 + j % 3 := by omega
  rw [hjj, flatK_get L (j / 3) (j % 3) hk (by omega)] at hj
  have := hc (j % 3) u (by rw [Array.getElem?_toList]; exact hj)
  rw [r_add, hjj, ← Nat.add_assoc]
  exact this
theorem run_app1K {w : World} (ty : TypeId) (base : Nat) (A : Option Addr) (m c : Nat) (L : List Kw) (ho : RoK w base A m c L) (x : Kw) (gb : Nat) (hb : w.heap[gb]? = some (.cells (kwC x) 48 (0, 0))) (hsz : m + 1 ≤ 1000000) (hbase : base ≤ w.heap.size) :
    ∃ A' c' w', (Builtin.append_ #[23, 23] ty #[.slice A m c, .slice (some ⟨gb, 0, none⟩) 1 1]).run Try.prog w = .ok (.slice A' (m + 1) c') w' ∧ RoK w' base A' (m + 1) c' (L ++ [x]) ∧ w.grownBy w' (Value.slice A m c).ownBlock ∧ Below base w w' := by
  obtain ⟨i, hi, hz, hs1, hb1⟩ := info_parts kw_info3
  obtain ⟨v', w', hrun, h1, h2, _, h4⟩ := run_append_own_at (P := Try.prog) w base 23 ty 48 i (kwV kw0) 3 40 Try.underlying23 hi hz hs1 hb1 rfl (by decide) _ m _ ho ⟨gb, 0, none⟩ 1 1 (kwC x).toList
    (by rw [kw_len3]) (by
      intro j u hj
      rw [r_add, Nat.zero_add]
      simp only [World.cell?, hb]
      rw [← Array.getElem?_toList]
      exact hj) (kw_oneL x) (by simp only [maxLen]; omega) (by omega) hbase
  obtain ⟨A'', c'', rfl⟩ := own_slice h1
  exact ⟨A'', c'', w', hrun, by unfold RoK; rw [flatK_snoc]; exact h1, h2, (Below.refl _ _).grown h2 hbase fun k hk => (ho.lt k hk).1⟩
theorem wpList_app1K {w : World} {ops : Array Oper} {rest : List Oper} {o : Oper} {a : Act} {Q : Exit → Act → World → Prop} (hgd : o.guard = none) (s x' : Operand)
    (ho : o.op = .call { callee := .builtin .append, args := #[s, x'], argTypes := #[23, 23] })
    (base : Nat) (A : Option Addr) (m c : Nat) (L : List Kw) (hs : a.eval s = .slice A m c) (hn : RoK w base A m c L) (x : Kw) (gb : Nat) (hx' : a.eval x' = .slice (some ⟨gb, 0, none⟩) 1 1) (hb : w.heap[gb]? = some (.cells (kwC x) 48 (0, 0))) (hsz : m + 1 ≤ 1000000) (hbase : base ≤ w.heap.size)
    (h : ∀ A' c' w', RoK w' base A' (m + 1) c' (L ++ [x]) → w.grownBy w' (Value.slice A m c).ownBlock → Below base w w' → wpList Try.prog ops Q rest (a.put o.dst (.slice A' (m + 1) c')) w') : wpList Try.prog ops Q (o :: rest) a w := by
  refine wpList_plain hgd fun K hK => ?_
  obtain ⟨A', c', w', hrun, h3, h4, h5⟩ := run_app1K o.type base A m c L hn x gb hb hsz hbase
  unfold Oper.wp execOp
  simp only [ho, resolve, invoke, builtin, Sem.run_bind, Sem.run_pure, Result.andThen_ok, List.map_toArray, List.map_cons, List.map_nil, hs, hx', hrun]
  exact hK _ _ (h A' c' w' h3 h4 h5)
theorem run_appK {w : World} (ty : TypeId) (base : Nat) (A : Option Addr) (m c : Nat) (L : List Kw) (ho : RoK w base A m c L) (hA : A ≠ none) (A2 : Option Addr) (B m2 c2 : Nat) (L2 : List Kw) (h2 : RsK w B A2 L2) (hm2 : m2 = L2.length) (hsz : m + m2 ≤ 1000000) (hbase : base ≤ w.heap.size) :
    ∃ A' c' w', (Builtin.append_ #[23, 23] ty #[.slice A m c, .slice A2 m2 c2]).run Try.prog w = .ok (.slice A' (m + m2) c') w' ∧ RoK w' base A' (m + m2) c' (L ++ L2) ∧ Below base w w' := by
  obtain ⟨i, hi, hz, hs1, hb1⟩ := info_parts kw_info3
  rcases Nat.eq_zero_or_pos m2 with h0 | hp
  · subst h0
    have hl2 : L2 = [] := List.eq_nil_of_length_eq_zero hm2.symm
    subst hl2
    rcases ho.form with ⟨e, _⟩ | ⟨g, rfl, hbg, hlt, cur, hh, h1, h3, h4, h5⟩
    · exact absurd e hA
    · refine ⟨some ⟨g, 0, none⟩, c, w, ?_, by simpa using ho, Below.refl _ _⟩
      cases A2 <;> simp [Builtin.append_, run_underlying Try.underlying23, sizeOf, typeInfo, hi, Builtin.lenOf, Builtin.firstCells, storeCells, loadCells, loadCellsFrom, h1]
  · obtain ⟨b, off, rfl, _, hcell⟩ := flatK_read h2 (by omega)
    obtain ⟨v', w', hrun, h3, h4, _, _⟩ := run_append_own_at (P := Try.prog) w base 23 ty 48 i (kwV kw0) 3 40 Try.underlying23 hi hz hs1 hb1 rfl (by decide) _ m _ ho ⟨b, off, none⟩ m2 c2 (flatK L2) (by rw [flatK_len, hm2]) hcell
      (flatK_one L2) (by simp only [maxLen]; omega) (by omega) hbase
    obtain ⟨A'', c'', rfl⟩ := own_slice h3
    exact ⟨A'', c'', w', hrun, by unfold RoK; rw [flatK_append]; exact h3, (Below.refl _ _).grown h4 hbase fun k hk => (ho.lt k hk).1⟩
theorem wpList_appK {w : World} {ops : Array Oper} {rest : List Oper} {o : Oper} {a : Act} {Q : Exit → Act → World → Prop} (hgd : o.guard = none) (s x : Operand)
    (ho : o.op = .call { callee := .builtin .append, args := #[s, x], argTypes := #[23, 23] })
    (base : Nat) (A : Option Addr) (m c : Nat) (L : List Kw) (hs : a.eval s = .slice A m c) (hown : RoK w base A m c L) (hA : A ≠ none) (A2 : Option Addr) (B m2 c2 : Nat) (L2 : List Kw) (hx : a.eval x = .slice A2 m2 c2) (h2 : RsK w B A2 L2) (hm2 : m2 = L2.length) (hsz : m + m2 ≤ 1000000) (hbase : base ≤ w.heap.size)
    (h : ∀ A' c' w', RoK w' base A' (m + m2) c' (L ++ L2) → Below base w w' → wpList Try.prog ops Q rest (a.put o.dst (.slice A' (m + m2) c')) w') :
    wpList Try.prog ops Q (o :: rest) a w := by
  refine wpList_plain hgd fun K hK => ?_
  obtain ⟨A', c', w', hrun, h3, h4⟩ := run_appK o.type base A m c L hown hA A2 B m2 c2 L2 h2 hm2 hsz hbase
  unfold Oper.wp execOp
  simp only [ho, resolve, invoke, builtin, Sem.run_bind, Sem.run_pure, Result.andThen_ok, List.map_toArray, List.map_cons, List.map_nil, hs, hx, hrun]
  exact hK _ _ (h A' c' w' h3 h4)
theorem ro_emptyK (w : World) : RoK (w.alloc (.cells #[] 48)) w.heap.size (some ⟨w.heap.size, 0, none⟩) 0 0 [] := ro_blockK (Nat.le_refl _) (heap_alloc_new w _) (Nat.le_refl _) (by simp [maxLen]) rfl rfl rfl
theorem eql_nilK (A : Option Addr) (m c : Nat) (w : World) : (binOp .eql 23 (.slice A m c) (.slice none 0 0)).run Try.prog w = .ok (.bool A.isNone) w := by
  have h : ∀ d, (Op.equalIn (d + 1) 23 (.slice A m c) (.slice none 0 0)).run Try.prog w = .ok A.isNone w := fun d => by
    cases A <;> simp [Op.equalIn, run_underlying Try.underlying23]
  have h2 : (Op.equal 23 (.slice A m c) (.slice none 0 0)).run Try.prog w = .ok A.isNone w := h 9999
  simp [binOp, h2]
set_option maxRecDepth 100000 in
set_option maxHeartbeats 1000000 in
theorem clone_K (A : Option Addr) (m c : Nat) (L : List Kw) (w : World) (hA : RsK w w.heap.size A L) (hm : m = L.length) (h6 : m ≤ 100000) :
    Calls Try.prog 85 #[.slice A m c] w fun e w' => ∃ A' c', e = .returned (.slice A' m c') ∧ RoK w' w.heap.size A' m c' L ∧ Below w.heap.size w w' := by
  have hb := (Below.refl w.heap.size w).alloc (Nat.le_refl _) (.cells #[] 48)
  have hA1 := hA.below hb (Nat.le_refl _)
  have he := ro_emptyK w
  cases A with
  | none =>
    have hl : L = [] := by
      rcases L with _ | ⟨x, l⟩
      · rfl
      · obtain ⟨b, off, e, _⟩ := hA 0 (by simp)
        cases e
    subst hl
    simp at hm
    subst hm
    have en := fun w => eql_nilK none 0 c w
    simp only [Option.isNone_none] at en
    go_enter Try.func85, Try.ntmps85
    go_wp2
    go_ret
    exact ⟨none, 0, rfl, ro_nilK _ _, Below.refl _ _⟩
  | some a =>
    have en := fun w => eql_nilK (some a) m c w
    simp only [Option.isNone_some] at en
    have HM := Lib.hid hm
    clear hm
    go_enter Try.func85, Try.ntmps85
    go_wp2_with (at_builtin; with_reducible refine wpList_appK rfl (.tmp 5) (.tmp 6) rfl w.heap.size _ 0 0 [] rfl he (by simp) (some a) w.heap.size m c L rfl hA1 HM.out (by omega) (by simp) ?_; intro A2 c2 w2 ho hb2)
    go_ret
    simp only [Nat.zero_add, List.nil_append] at ho
    exact ⟨A2, c2, rfl, ho, hb.trans hb2⟩
end Go.Proofs.Ytolalbpjaebfdaa
