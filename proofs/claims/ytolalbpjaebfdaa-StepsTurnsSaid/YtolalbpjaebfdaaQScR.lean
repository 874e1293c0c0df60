/-
  Threads under picks (api.Run) in memory: rows that are read, and rows that the call owns.
-/
import Derived.Test.YtolalbpjaebfdaaQScB
namespace Go.Proofs.Ytolalbpjaebfdaa
open Go.RowKit Go.Shelf
set_option linter.unusedVariables false
set_option linter.unusedSimpArgs false
structure Rn where
  i : Int
  s : Int
  n : Int
def rn0 : Rn := ⟨0, 0, 0⟩
def rnC (x : Rn) : Array Value := #[.int .i64 x.i, .int .i64 x.s, .int .i64 x.n]
def rnV (x : Rn) : Value := .agg (rnC x)
theorem rn_size (x : Rn) : (rnC x).size = 3 := rfl
theorem rn_len3 (x : Rn) : (rnC x).toList.length = 3 := rfl
theorem rn_inf (x : Rn) : (Try.prog.info? 52).map (·.size) = some (rnC x).size := by rw [rn_size]; kernel_rfl
theorem rn_infL (x : Rn) : (Try.prog.info? 52).map (·.size) = some (rnC x).toList.length := by rw [Array.length_toList]; exact rn_inf x
theorem rn_one (x : Rn) : (rnC x).all (·.oneCell') = true := by simp [rnC, Value.oneCell']
theorem rn_oneL (x : Rn) : ∀ u ∈ (rnC x).toList, u.oneCell' = true := by
  intro u hu
  simp only [rnC, List.mem_cons, List.not_mem_nil, or_false] at hu
  rcases hu with rfl | rfl | rfl <;> rfl
theorem rn_info3 : (Try.prog.info? 52).map (fun i => (i.zero, i.size, i.bytes)) = some (some (rnV rn0), 3, 24) := by kernel_rfl
def RsR (w : World) (B : Nat) (A : Option Addr) (L : List Rn) : Prop := ∀ k, k < L.length → ∃ b off, A = some ⟨b, off, none⟩ ∧ b < B ∧ w.rangeAt b (off + k * 3) (rnC (L.getD k rn0)).toList
theorem RsR.below {w w' : World} {B B' : Nat} {A : Option Addr} {L : List Rn} (h : RsR w B A L) (hb : Below B' w w') (hB : B ≤ B') : RsR w' B A L := fun k hk => by
  obtain ⟨b, off, e, h1, h2⟩ := h k hk
  exact ⟨b, off, e, h1, range_below3 h2 hb (Nat.lt_of_lt_of_le h1 hB)⟩
theorem RsR.more {w : World} {B B' : Nat} {A : Option Addr} {L : List Rn} (h : RsR w B A L) (hB : B ≤ B') : RsR w B' A L := fun k hk => by
  obtain ⟨b, off, e, h1, h2⟩ := h k hk
  exact ⟨b, off, e, by omega, h2⟩
theorem rs_nilR (w : World) (B : Nat) (A : Option Addr) : RsR w B A [] := fun k hk => absurd hk (by simp)
def flatR (L : List Rn) : List Value := L.flatMap fun x => (rnC x).toList
theorem flatR_cons (x : Rn) (L : List Rn) : flatR (x :: L) = (rnC x).toList ++ flatR L := by simp [flatR]
theorem flatR_snoc (L : List Rn) (x : Rn) : flatR (L ++ [x]) = flatR L ++ (rnC x).toList := by simp [flatR]
theorem flatR_append (L M : List Rn) : flatR (L ++ M) = flatR L ++ flatR M := by simp [flatR]
theorem flatR_len : ∀ (L : List Rn), (flatR L).length = L.length * 3
  | [] => rfl
  | x :: L => by
    rw [flatR_cons, List.length_append, rn_len3, flatR_len L, List.length_cons]; omega
theorem flatR_get : ∀ (L : List Rn) (k j : Nat), k < L.length → j < 3 → (flatR L)[k * 3 + j]? = (rnC (L.getD k rn0))[j]?
  | [], k, j, h, _ => absurd h (by simp)
  | x :: L, 0, j, _, hj => by
    rw [flatR_cons, Nat.zero_mul, Nat.zero_add, List.getElem?_append_left (by rw [rn_len3]; exact hj), Array.getElem?_toList]
    rfl
  | x :: L, k + 1, j, h, hj => by
    rw [flatR_cons, List.getElem?_append_right (by rw [rn_len3]; omega), rn_len3, show (k + 1) * 3 + j - 3 = k * 3 + j by omega, flatR_get L k j (by simpa using h) hj]
    simp [List.getD]
theorem flatR_one (L : List Rn) : ∀ u ∈ flatR L, u.oneCell' = true := by
  intro u hu
  obtain ⟨x, _, hx⟩ := List.mem_flatMap.1 hu
  exact rn_oneL x u hx
theorem flatR_take : ∀ (k : Nat) (L : List Rn), (flatR L).take (k * 3) = flatR (L.take k)
  | 0, L => by simp [flatR]
  | k + 1, [] => by simp [flatR]
  | k + 1, x :: L => by
    rw [flatR_cons, List.take_succ_cons, flatR_cons, List.take_append, rn_len3, show (k + 1) * 3 - 3 = k * 3 by omega, flatR_take k L, List.take_of_length_le (by rw [rn_len3]; omega)]
theorem flatR_drop : ∀ (k : Nat) (L : List Rn), (flatR L).drop (k * 3) = flatR (L.drop k)
  | 0, L => by simp [flatR]
  | k + 1, [] => by simp [flatR]
  | k + 1, x :: L => by
    rw [flatR_cons, List.drop_succ_cons, List.drop_append, rn_len3, show (k + 1) * 3 - 3 = k * 3 by omega, flatR_drop k L, List.drop_of_length_le (by rw [rn_len3]; omega), List.nil_append]
theorem flatR_set (y : Rn) (L : List Rn) (k : Nat) (h : k < L.length) : flatR (L.set k y) = (flatR L).take (k * 3) ++ (rnC y).toList ++ (flatR L).drop (k * 3 + 3) := by
  rw [List.set_eq_take_append_cons_drop, if_pos h, flatR_append, flatR_cons, flatR_take, show k * 3 + 3 = (k + 1) * 3 by omega, flatR_drop, List.append_assoc]
def RoR (w : World) (base : Nat) (A : Option Addr) (m c : Nat) (L : List Rn) : Prop := w.ownsRow base 52 3 (.slice A m c) m (flatR L)
section
variable {w w' : World} {base B B' m c : Nat} {A : Option Addr} {L : List Rn}
theorem RoR.len (h : RoR w base A m c L) : m = L.length := by have := h.1; rw [flatR_len] at this; omega
theorem RoR.down (h : RoR w base A m c L) {b : Nat} (hb : b ≤ base) : RoR w b A m c L := own_base h hb
theorem RoR.below (h : RoR w base A m c L) (hb : Below B w w') (hB : w.heap.size ≤ B) : RoR w' base A m c L := ownsRow_below h hb hB
theorem RoR.grown (h : RoR w base A m c L) {row : Option Nat} (hg : w.grownBy w' row) (hr : ∀ g, A = some ⟨g, 0, none⟩ → row ≠ some g) : RoR w' base A m c L := by
  refine ⟨h.1, ?_⟩
  rcases h.2 with h0 | ⟨g', cap, cur, hv, hb, hh, r⟩
  · exact .inl h0
  · refine .inr ⟨g', cap, cur, hv, hb, (hg.block g' (Array.getElem?_eq_some_iff.1 hh).1 (fun e => ?_)).trans hh, r⟩
    injection hv with e1 _ _
    exact hr g' e1 e.symm
theorem RoR.but {g : Nat} (h : RoR w base A m c L) (n : But g w w') (hg : ∀ g', A = some ⟨g', 0, none⟩ → g ≠ g') : RoR w' base A m c L := by
  refine ⟨h.1, ?_⟩
  rcases h.2 with h0 | ⟨g', cap, cur, hv, hb, hh, r⟩
  · exact .inl h0
  · refine .inr ⟨g', cap, cur, hv, hb, (n.block g' (Array.getElem?_eq_some_iff.1 hh).1 (fun e => ?_)).trans hh, r⟩
    injection hv with e1 _ _
    exact hg g' e1 e.symm
theorem RoR.cap (h : RoR w base A m c L) : m ≤ c := by
  rcases h.2 with ⟨hv, h0⟩ | ⟨g, cap, cur, hv, _, _, hnc, _⟩
  · omega
  · injection hv with _ _ h3
    omega
theorem RoR.rs (h : RoR w base A m c L) : RsR w w.heap.size A L := fun k hk => by
  have hm := h.len
  obtain ⟨g, c', hv, hg, hcs⟩ := own_head h (by omega)
  injection hv with hA _ _
  refine ⟨g, 0, hA, hg, fun j v hv => ?_⟩
  have hj : j < 3 := by
    rcases Nat.lt_or_ge j 3 with h1 | h1
    · exact h1
    · rw [List.getElem?_eq_none (by rw [rn_len3]; exact h1)] at hv; cases hv
  rw [Nat.zero_add]
  exact hcs _ _ ((flatR_get L k j hk hj).trans (by rw [← Array.getElem?_toList]; exact hv))
theorem ro_nilR (w : World) (base : Nat) : RoR w base none 0 0 [] := World.ownsRow_nil w base _ 3
theorem RoR.form (h : RoR w base A m c L) : (A = none ∧ m = 0 ∧ c = 0 ∧ L = []) ∨ ∃ g, A = some ⟨g, 0, none⟩ ∧ base ≤ g ∧ g < w.heap.size ∧ ∃ cur, w.heap[g]? = some (.cells cur 52 (0, 0)) ∧ m ≤ c ∧ c ≤ maxLen ∧ cur.size = c * 3 ∧ cur.toList.take (m * 3) = flatR L := by
  have hl := h.len
  rcases h.2 with ⟨hv, h0⟩ | ⟨g, cap, cur, hv, hg, hh, h1, h2, h3, h4⟩
  · injection hv with e1 e2 e3
    exact .inl ⟨e1, h0, e3, List.eq_nil_of_length_eq_zero (by omega)⟩
  · injection hv with e1 _ e3
    subst e3
    exact .inr ⟨g, e1, hg, (Array.getElem?_eq_some_iff.1 hh).1, cur, hh, h1, h2, h3, h4⟩
theorem RoR.at0 (h : RoR w base A m c L) (hm : 0 < L.length) : ∃ g, A = some ⟨g, 0, none⟩ ∧ base ≤ g ∧ g < w.heap.size := by
  rcases h.form with ⟨_, _, _, e⟩ | ⟨g, e, h1, h2, _⟩
  · subst e; simp at hm
  · exact ⟨g, e, h1, h2⟩
theorem ro_blockR {g : Nat} {cur : Array Value} (hb : base ≤ g) (hh : w.heap[g]? = some (.cells cur 52 (0, 0))) (h1 : m ≤ c) (h2 : c ≤ maxLen) (h3 : cur.size = c * 3) (h4 : cur.toList.take (m * 3) = flatR L) (hm : m = L.length) : RoR w base (some ⟨g, 0, none⟩) m c L :=
  ⟨by rw [flatR_len, hm], .inr ⟨g, c, cur, rfl, hb, hh, h1, h2, h3, h4⟩⟩
theorem RoR.take {g k : Nat} (h : RoR w base (some ⟨g, 0, none⟩) m c L) (hk : k ≤ m) : RoR w base (some ⟨g, 0, none⟩) k c (L.take k) := by
  have hl := h.len
  rcases h.form with ⟨e, _⟩ | ⟨g', e, hb, _, cur, hh, h1, h2, h3, h4⟩
  · cases e
  · cases e
    refine ro_blockR hb hh (by omega) h2 h3 ?_ (by rw [List.length_take]; omega)
    rw [← flatR_take, ← h4, List.take_take, Nat.min_eq_left (by omega)]
theorem RoR.cellSet {g k j : Nat} {u : Value} {y : Rn} (h : RoR w base (some ⟨g, 0, none⟩) m c L) (hk : k < L.length) (hj : j < 3) (hy : (rnC y).toList = (rnC (L.getD k rn0)).toList.set j u) : RoR (w.setCell ⟨g, k * 3 + j, none⟩ u) base (some ⟨g, 0, none⟩) m c (L.set k y) := by
  have hs := (World.ownsRow.stored h (k * 3 + j) u).1
  have e : (flatR L).set (k * 3 + j) u = flatR (L.set k y) := by
    refine List.ext_getElem? fun i => ?_
    rw [flatR_set y L k hk, hy]
    have hl := flatR_len L
    have hlt : ((flatR L).take (k * 3)).length = k * 3 := by rw [List.length_take]; omega
    have hls : ((rnC (L.getD k rn0)).toList.set j u).length = 3 := by rw [List.length_set]; rfl
    rw [List.getElem?_set]
    rcases Nat.lt_or_ge i (k * 3) with h1 | h1
    · rw [if_neg (by omega), List.append_assoc, List.getElem?_append_left (by omega), List.getElem?_take_of_lt h1]
    · rcases Nat.lt_or_ge i (k * 3 + 3) with h2 | h2
      · rw [List.append_assoc, List.getElem?_append_right (by omega), List.getElem?_append_left (by omega), hlt, List.getElem?_set]
        obtain ⟨q, rfl⟩ : ∃ q, i = k * 3 + q := ⟨i - k * 3, by omega⟩
        rw [flatR_get L k q hk (by omega), Nat.add_sub_cancel_left]
        by_cases hq : j = q
        · subst hq
          rw [if_pos rfl, if_pos rfl, if_pos (by omega), if_pos (by rw [rn_len3]; exact hj)]
        · rw [if_neg (by omega), if_neg hq, Array.getElem?_toList]
      · rw [List.getElem?_append_right (by rw [List.length_append]; omega), List.length_append, hlt, hls, if_neg (by omega), List.getElem?_drop, show k * 3 + 3 + (i - (k * 3 + 3)) = i by omega]
  unfold RoR
  rw [← e]
  exact hs
end
theorem flatR_read {w : World} {B : Nat} {A : Option Addr} {L : List Rn} (h : RsR w B A L) (hL : 0 < L.length) : ∃ b off, A = some ⟨b, off, none⟩ ∧ b < B ∧ ∀ j u, (flatR L)[j]? = some u → w.cell? ((⟨b, off, none⟩ : Addr).add j) = some u := by
  obtain ⟨b, off, e, hb, _⟩ := h 0 hL
  refine ⟨b, off, e, hb, fun j u hj => ?_⟩
  have hjl : j < L.length * 3 := by
    rw [← flatR_len]
    rcases Nat.lt_or_ge j (flatR L).length with h1 | h1
    · exact h1
    · rw [List.getElem?_eq_none h1] at hj; cases hj
  have hk : j / 3 < L.length := by omega
  obtain ⟨b', off', e', _, hc⟩ := h (j / 3) hk
  rw [e] at e'
  cases e'
  have hjj : j = j / 3 * 3 + j % 3 := by omega
  rw [hjj, flatR_get L (j / 3) (j % 3) hk (by omega)] at hj
  have := hc (j % 3) u (by rw [Array.getElem?_toList]; exact hj)
  rw [r_add, hjj, ← Nat.add_assoc]
  exact this
theorem run_app1R {w : World} (ty : TypeId) (base : Nat) (A : Option Addr) (m c : Nat) (L : List Rn) (ho : RoR w base A m c L) (x : Rn) (gb : Nat) (hb : w.heap[gb]? = some (.cells (rnC x) 52 (0, 0))) (hsz : m + 1 ≤ 1000000) (hbase : base ≤ w.heap.size) :
    ∃ A' c' w', (Builtin.append_ #[22, 22] ty #[.slice A m c, .slice (some ⟨gb, 0, none⟩) 1 1]).run Try.prog w = .ok (.slice A' (m + 1) c') w' ∧ RoR w' base A' (m + 1) c' (L ++ [x]) ∧ w.grownBy w' (Value.slice A m c).ownBlock ∧ Below base w w' := by
  obtain ⟨i, hi, hz, hs1, hb1⟩ := info_parts rn_info3
  obtain ⟨v', w', hrun, h1, h2, _, h4⟩ := run_append_own_at (P := Try.prog) w base 22 ty 52 i (rnV rn0) 3 24 Try.underlying22 hi hz hs1 hb1 rfl (by decide) _ m _ ho ⟨gb, 0, none⟩ 1 1 (rnC x).toList
    (by rw [rn_len3]) (by
      intro j u hj
      rw [r_add, Nat.zero_add]
      simp only [World.cell?, hb]
      rw [← Array.getElem?_toList]
      exact hj) (rn_oneL x) (by simp only [maxLen]; omega) (by omega) hbase
  obtain ⟨A'', c'', rfl⟩ := own_slice h1
  exact ⟨A'', c'', w', hrun, by unfold RoR; rw [flatR_snoc]; exact h1, h2, (Below.refl _ _).grown h2 hbase fun k hk => (ho.lt k hk).1⟩
theorem wpList_app1R {w : World} {ops : Array Oper} {rest : List Oper} {o : Oper} {a : Act} {Q : Exit → Act → World → Prop} (hgd : o.guard = none) (s x' : Operand)
    (ho : o.op = .call { callee := .builtin .append, args := #[s, x'], argTypes := #[22, 22] })
    (base : Nat) (A : Option Addr) (m c : Nat) (L : List Rn) (hs : a.eval s = .slice A m c) (hn : RoR w base A m c L) (x : Rn) (gb : Nat) (hx' : a.eval x' = .slice (some ⟨gb, 0, none⟩) 1 1) (hb : w.heap[gb]? = some (.cells (rnC x) 52 (0, 0))) (hsz : m + 1 ≤ 1000000) (hbase : base ≤ w.heap.size)
    (h : ∀ A' c' w', RoR w' base A' (m + 1) c' (L ++ [x]) → w.grownBy w' (Value.slice A m c).ownBlock → Below base w w' → wpList Try.prog ops Q rest (a.put o.dst (.slice A' (m + 1) c')) w') : wpList Try.prog ops Q (o :: rest) a w := by
  refine wpList_plain hgd fun K hK => ?_
  obtain ⟨A', c', w', hrun, h3, h4, h5⟩ := run_app1R o.type base A m c L hn x gb hb hsz hbase
  unfold Oper.wp execOp
  simp only [ho, resolve, invoke, builtin, Sem.run_bind, Sem.run_pure, Result.andThen_ok, List.map_toArray, List.map_cons, List.map_nil, hs, hx', hrun]
  exact hK _ _ (h A' c' w' h3 h4 h5)
theorem run_appR {w : World} (ty : TypeId) (base : Nat) (A : Option Addr) (m c : Nat) (L : List Rn) (ho : RoR w base A m c L) (hA : A ≠ none) (A2 : Option Addr) (B m2 c2 : Nat) (L2 : List Rn) (h2 : RsR w B A2 L2) (hm2 : m2 = L2.length) (hsz : m + m2 ≤ 1000000) (hbase : base ≤ w.heap.size) :
    ∃ A' c' w', (Builtin.append_ #[22, 22] ty #[.slice A m c, .slice A2 m2 c2]).run Try.prog w = .ok (.slice A' (m + m2) c') w' ∧ RoR w' base A' (m + m2) c' (L ++ L2) ∧ Below base w w' := by
  obtain ⟨i, hi, hz, hs1, hb1⟩ := info_parts rn_info3
  rcases Nat.eq_zero_or_pos m2 with h0 | hp
  · subst h0
    have hl2 : L2 = [] := List.eq_nil_of_length_eq_zero hm2.symm
    subst hl2
    rcases ho.form with ⟨e, _⟩ | ⟨g, rfl, hbg, hlt, cur, hh, h1, h3, h4, h5⟩
    · exact absurd e hA
    · refine ⟨some ⟨g, 0, none⟩, c, w, ?_, by simpa using ho, Below.refl _ _⟩
      cases A2 <;> simp [Builtin.append_, run_underlying Try.underlying22, sizeOf, typeInfo, hi, Builtin.lenOf, Builtin.firstCells, storeCells, loadCells, loadCellsFrom, h1]
  · obtain ⟨b, off, rfl, _, hcell⟩ := flatR_read h2 (by omega)
    obtain ⟨v', w', hrun, h3, h4, _, _⟩ := run_append_own_at (P := Try.prog) w base 22 ty 52 i (rnV rn0) 3 24 Try.underlying22 hi hz hs1 hb1 rfl (by decide) _ m _ ho ⟨b, off, none⟩ m2 c2 (flatR L2) (by rw [flatR_len, hm2]) hcell
      (flatR_one L2) (by simp only [maxLen]; omega) (by omega) hbase
    obtain ⟨A'', c'', rfl⟩ := own_slice h3
    exact ⟨A'', c'', w', hrun, by unfold RoR; rw [flatR_append]; exact h3, (Below.refl _ _).grown h4 hbase fun k hk => (ho.lt k hk).1⟩
theorem wpList_appR {w : World} {ops : Array Oper} {rest : List Oper} {o : Oper} {a : Act} {Q : Exit → Act → World → Prop} (hgd : o.guard = none) (s x : Operand)
    (ho : o.op = .call { callee := .builtin .append, args := #[s, x], argTypes := #[22, 22] })
    (base : Nat) (A : Option Addr) (m c : Nat) (L : List Rn) (hs : a.eval s = .slice A m c) (hown : RoR w base A m c L) (hA : A ≠ none) (A2 : Option Addr) (B m2 c2 : Nat) (L2 : List Rn) (hx : a.eval x = .slice A2 m2 c2) (h2 : RsR w B A2 L2) (hm2 : m2 = L2.length) (hsz : m + m2 ≤ 1000000) (hbase : base ≤ w.heap.size)
    (h : ∀ A' c' w', RoR w' base A' (m + m2) c' (L ++ L2) → Below base w w' → wpList Try.prog ops Q rest (a.put o.dst (.slice A' (m + m2) c')) w') :
    wpList Try.prog ops Q (o :: rest) a w := by
  refine wpList_plain hgd fun K hK => ?_
  obtain ⟨A', c', w', hrun, h3, h4⟩ := run_appR o.type base A m c L hown hA A2 B m2 c2 L2 h2 hm2 hsz hbase
  unfold Oper.wp execOp
  simp only [ho, resolve, invoke, builtin, Sem.run_bind, Sem.run_pure, Result.andThen_ok, List.map_toArray, List.map_cons, List.map_nil, hs, hx, hrun]
  exact hK _ _ (h A' c' w' h3 h4)
theorem ro_emptyR (w : World) : RoR (w.alloc (.cells #[] 52)) w.heap.size (some ⟨w.heap.size, 0, none⟩) 0 0 [] := ro_blockR (Nat.le_refl _) (heap_alloc_new w _) (Nat.le_refl _) (by simp [maxLen]) rfl rfl rfl
theorem eql_nilR (A : Option Addr) (m c : Nat) (w : World) : (binOp .eql 22 (.slice A m c) (.slice none 0 0)).run Try.prog w = .ok (.bool A.isNone) w := by
  have h : ∀ d, (Op.equalIn (d + 1) 22 (.slice A m c) (.slice none 0 0)).run Try.prog w = .ok A.isNone w := fun d => by
    cases A <;> simp [Op.equalIn, run_underlying Try.underlying22]
  have h2 : (Op.equal 22 (.slice A m c) (.slice none 0 0)).run Try.prog w = .ok A.isNone w := h 9999
  simp [binOp, h2]
set_option maxRecDepth 100000 in
set_option maxHeartbeats 1000000 in
theorem clone_R (A : Option Addr) (m c : Nat) (L : List Rn) (w : World) (hA : RsR w w.heap.size A L) (hm : m = L.length) (h6 : m ≤ 100000) :
    Calls Try.prog 84 #[.slice A m c] w fun e w' => ∃ A' c', e = .returned (.slice A' m c') ∧ RoR w' w.heap.size A' m c' L ∧ Below w.heap.size w w' := by
  have hb := (Below.refl w.heap.size w).alloc (Nat.le_refl _) (.cells #[] 52)
  have hA1 := hA.below hb (Nat.le_refl _)
  have he := ro_emptyR w
  cases A with
  | none =>
    have hl : L = [] := by
      rcases L with _ | ⟨x, l⟩
      · rfl
      · obtain ⟨b, off, e, _⟩ := hA 0 (by simp)
        cases e
    subst hl
    simp at hm
    subst hm
    have en := fun w => eql_nilR none 0 c w
    simp only [Option.isNone_none] at en
    go_enter Try.func84, Try.ntmps84
    go_wp2
    go_ret
    exact ⟨none, 0, rfl, ro_nilR _ _, Below.refl _ _⟩
  | some a =>
    have en := fun w => eql_nilR (some a) m c w
    simp only [Option.isNone_some] at en
    have HM := Lib.hid hm
    clear hm
    go_enter Try.func84, Try.ntmps84
    go_wp2_with (at_builtin; with_reducible refine wpList_appR rfl (.tmp 5) (.tmp 6) rfl w.heap.size _ 0 0 [] rfl he (by simp) (some a) w.heap.size m c L rfl hA1 HM.out (by omega) (by simp) ?_; intro A2 c2 w2 ho hb2)
    go_ret
    simp only [Nat.zero_add, List.nil_append] at ho
    exact ⟨A2, c2, rfl, ho, hb.trans hb2⟩
end Go.Proofs.Ytolalbpjaebfdaa
