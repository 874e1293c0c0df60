/-
  The reference: Same, Copy, Free, Take.
-/
import Derived.Test.YtlelhhgggnjndaaGreatQTkK
import Derived.Test.YtlelhhgggnjndaaGreatQPiT
import Derived.Test.YtlelhhgggnjndaaGreatQPiSh
import Derived.Maps.AppendAt
import Derived.Test.YtlelhhgggnjndaaGreatQPiU
import Derived.Test.YtlelhhgggnjndaaGreatQTkB
namespace Go.Proofs.YtlelhhgggnjndaaGreat
open Go.RowKit Go.Shelf
set_option linter.unusedVariables false
set_option linter.unusedSimpArgs false
def eqP (x y : Pw) : Bool := x.1.i == y.1.i && (x.1.p == y.1.p && (x.1.t == y.1.t))
theorem eqP_iff (x y : Pw) : eqP x y = true ↔ x.1 = y.1 := by
  obtain ⟨⟨i, p, t⟩, r⟩ := x
  obtain ⟨⟨i2, p2, t2⟩, r2⟩ := y
  simp [eqP]
end Go.Proofs.YtlelhhgggnjndaaGreat
namespace Go.Proofs.YtlelhhgggnjndaaGreat
open Go.RowKit Go.Shelf
set_option linter.unusedVariables false
set_option linter.unusedSimpArgs false
theorem r_add (b off j : Nat) : (⟨b, off, none⟩ : Addr).add j = ⟨b, off + j, none⟩ := z_add b off j
theorem range_below3 {w w' : World} {b o B : Nat} {cs : List Value} (h : w.rangeAt b o cs) (hb : Below B w w') (hB : b < B) : w'.rangeAt b o cs := range_belowT h hb hB
theorem pr_len3 (x : Pw) : (prC x).toList.length = 3 := rfl
theorem pr_info3 : (Tryz.prog.info? 49).map (fun i => (i.zero, i.size, i.bytes)) = some (some (prV pw0), 3, 40) := by kernel_rfl
def RsP (w : World) (B : Nat) (A : Option Addr) (L : List Pw) : Prop := ∀ k, k < L.length → ∃ b off, A = some ⟨b, off, none⟩ ∧ b < B ∧ w.rangeAt b (off + k * 3) (prC (L.getD k pw0)).toList
theorem RsP.below {w w' : World} {B B' : Nat} {A : Option Addr} {L : List Pw} (h : RsP w B A L) (hb : Below B' w w') (hB : B ≤ B') : RsP w' B A L := fun k hk => by
  obtain ⟨b, off, e, h1, h2⟩ := h k hk
  exact ⟨b, off, e, h1, range_below3 h2 hb (Nat.lt_of_lt_of_le h1 hB)⟩
def flatP (L : List Pw) : List Value := L.flatMap fun x => (prC x).toList
theorem flatP_cons (x : Pw) (L : List Pw) : flatP (x :: L) = (prC x).toList ++ flatP L := by simp [flatP]
theorem flatP_snoc (L : List Pw) (x : Pw) : flatP (L ++ [x]) = flatP L ++ (prC x).toList := by simp [flatP]
theorem flatP_append (L M : List Pw) : flatP (L ++ M) = flatP L ++ flatP M := by simp [flatP]
theorem flatP_len : ∀ (L : List Pw), (flatP L).length = L.length * 3
  | [] => rfl
  | x :: L => by
    rw [flatP_cons, List.length_append, pr_len3, flatP_len L, List.length_cons]; omega
theorem flatP_get : ∀ (L : List Pw) (k j : Nat), k < L.length → j < 3 → (flatP L)[k * 3 + j]? = (prC (L.getD k pw0))[j]?
  | [], k, j, h, _ => absurd h (by simp)
  | x :: L, 0, j, _, hj => by
    rw [flatP_cons, Nat.zero_mul, Nat.zero_add, List.getElem?_append_left (by rw [pr_len3]; exact hj), Array.getElem?_toList]
    rfl
  | x :: L, k + 1, j, h, hj => by
    rw [flatP_cons, List.getElem?_append_right (by rw [pr_len3]; omega), pr_len3, show (k + 1) * 3 + j - 3 = k * 3 + j by omega, flatP_get L k j (by simpa using h) hj]
    simp [List.getD]
theorem flatP_one (L : List Pw) : ∀ u ∈ flatP L, u.oneCell' = true := by
  intro u hu
  obtain ⟨x, _, hx⟩ := List.mem_flatMap.1 hu
  exact pr_oneL x u hx
theorem flatP_take : ∀ (k : Nat) (L : List Pw), (flatP L).take (k * 3) = flatP (L.take k)
  | 0, L => by simp [flatP]
  | k + 1, [] => by simp [flatP]
  | k + 1, x :: L => by
    rw [flatP_cons, List.take_succ_cons, flatP_cons, List.take_append, pr_len3, show (k + 1) * 3 - 3 = k * 3 by omega, flatP_take k L, List.take_of_length_le (by rw [pr_len3]; omega)]
theorem flatP_drop : ∀ (k : Nat) (L : List Pw), (flatP L).drop (k * 3) = flatP (L.drop k)
  | 0, L => by simp [flatP]
  | k + 1, [] => by simp [flatP]
  | k + 1, x :: L => by
    rw [flatP_cons, List.drop_succ_cons, List.drop_append, pr_len3, show (k + 1) * 3 - 3 = k * 3 by omega, flatP_drop k L, List.drop_of_length_le (by rw [pr_len3]; omega), List.nil_append]
theorem flatP_set (y : Pw) (L : List Pw) (k : Nat) (h : k < L.length) : flatP (L.set k y) = (flatP L).take (k * 3) ++ (prC y).toList ++ (flatP L).drop (k * 3 + 3) := by
  rw [List.set_eq_take_append_cons_drop, if_pos h, flatP_append, flatP_cons, flatP_take, show k * 3 + 3 = (k + 1) * 3 by omega, flatP_drop, List.append_assoc]
def RoP (w : World) (base : Nat) (A : Option Addr) (m c : Nat) (L : List Pw) : Prop := w.ownsRow base 49 3 (.slice A m c) m (flatP L)
section
variable {w w' : World} {base B B' m c : Nat} {A : Option Addr} {L : List Pw}
theorem RoP.len (h : RoP w base A m c L) : m = L.length := by have := h.1; rw [flatP_len] at this; omega
theorem RoP.down (h : RoP w base A m c L) {b : Nat} (hb : b ≤ base) : RoP w b A m c L := own_base h hb
theorem RoP.below (h : RoP w base A m c L) (hb : Below B w w') (hB : w.heap.size ≤ B) : RoP w' base A m c L := ownsRow_below h hb hB
theorem RoP.cap (h : RoP w base A m c L) : m ≤ c := by
  rcases h.2 with ⟨hv, h0⟩ | ⟨g, cap, cur, hv, _, _, hnc, _⟩
  · omega
  · injection hv with _ _ h3
    omega
theorem RoP.rs (h : RoP w base A m c L) : RsP w w.heap.size A L := fun k hk => by
  have hm := h.len
  obtain ⟨g, c', hv, hg, hcs⟩ := own_head h (by omega)
  injection hv with hA _ _
  refine ⟨g, 0, hA, hg, fun j v hv => ?_⟩
  have hj : j < 3 := by
    rcases Nat.lt_or_ge j 3 with h1 | h1
    · exact h1
    · rw [List.getElem?_eq_none (by rw [pr_len3]; exact h1)] at hv; cases hv
  rw [Nat.zero_add]
  exact hcs _ _ ((flatP_get L k j hk hj).trans (by rw [← Array.getElem?_toList]; exact hv))
theorem ro_nilP (w : World) (base : Nat) : RoP w base none 0 0 [] := World.ownsRow_nil w base _ 3
theorem RoP.form (h : RoP w base A m c L) : (A = none ∧ m = 0 ∧ c = 0 ∧ L = []) ∨ ∃ g, A = some ⟨g, 0, none⟩ ∧ base ≤ g ∧ g < w.heap.size ∧ ∃ cur, w.heap[g]? = some (.cells cur 49 (0, 0)) ∧ m ≤ c ∧ c ≤ maxLen ∧ cur.size = c * 3 ∧ cur.toList.take (m * 3) = flatP L := by
  have hl := h.len
  rcases h.2 with ⟨hv, h0⟩ | ⟨g, cap, cur, hv, hg, hh, h1, h2, h3, h4⟩
  · injection hv with e1 e2 e3
    exact .inl ⟨e1, h0, e3, List.eq_nil_of_length_eq_zero (by omega)⟩
  · injection hv with e1 _ e3
    subst e3
    exact .inr ⟨g, e1, hg, (Array.getElem?_eq_some_iff.1 hh).1, cur, hh, h1, h2, h3, h4⟩
theorem RoP.at0 (h : RoP w base A m c L) (hm : 0 < L.length) : ∃ g, A = some ⟨g, 0, none⟩ ∧ base ≤ g ∧ g < w.heap.size := by
  rcases h.form with ⟨_, _, _, e⟩ | ⟨g, e, h1, h2, _⟩
  · subst e; simp at hm
  · exact ⟨g, e, h1, h2⟩
theorem ro_blockP {g : Nat} {cur : Array Value} (hb : base ≤ g) (hh : w.heap[g]? = some (.cells cur 49 (0, 0))) (h1 : m ≤ c) (h2 : c ≤ maxLen) (h3 : cur.size = c * 3) (h4 : cur.toList.take (m * 3) = flatP L) (hm : m = L.length) : RoP w base (some ⟨g, 0, none⟩) m c L :=
  ⟨by rw [flatP_len, hm], .inr ⟨g, c, cur, rfl, hb, hh, h1, h2, h3, h4⟩⟩
theorem RoP.take {g k : Nat} (h : RoP w base (some ⟨g, 0, none⟩) m c L) (hk : k ≤ m) : RoP w base (some ⟨g, 0, none⟩) k c (L.take k) := by
  have hl := h.len
  rcases h.form with ⟨e, _⟩ | ⟨g', e, hb, _, cur, hh, h1, h2, h3, h4⟩
  · cases e
  · cases e
    refine ro_blockP hb hh (by omega) h2 h3 ?_ (by rw [List.length_take]; omega)
    rw [← flatP_take, ← h4, List.take_take, Nat.min_eq_left (by omega)]
theorem RoP.cellSet {g k j : Nat} {u : Value} {y : Pw} (h : RoP w base (some ⟨g, 0, none⟩) m c L) (hk : k < L.length) (hj : j < 3) (hy : (prC y).toList = (prC (L.getD k pw0)).toList.set j u) : RoP (w.setCell ⟨g, k * 3 + j, none⟩ u) base (some ⟨g, 0, none⟩) m c (L.set k y) := by
  have hs := (World.ownsRow.stored h (k * 3 + j) u).1
  have e : (flatP L).set (k * 3 + j) u = flatP (L.set k y) := by
    refine List.ext_getElem? fun i => ?_
    rw [flatP_set y L k hk, hy]
    have hl := flatP_len L
    have hlt : ((flatP L).take (k * 3)).length = k * 3 := by rw [List.length_take]; omega
    have hls : ((prC (L.getD k pw0)).toList.set j u).length = 3 := by rw [List.length_set]; rfl
    rw [List.getElem?_set]
    rcases Nat.lt_or_ge i (k * 3) with h1 | h1
    · rw [if_neg (by omega), List.append_assoc, List.getElem?_append_left (by omega), List.getElem?_take_of_lt h1]
    · rcases Nat.lt_or_ge i (k * 3 + 3) with h2 | h2
      · rw [List.append_assoc, List.getElem?_append_right (by omega), List.getElem?_append_left (by omega), hlt, List.getElem?_set]
        obtain ⟨q, rfl⟩ : ∃ q, i = k * 3 + q := ⟨i - k * 3, by omega⟩
        rw [flatP_get L k q hk (by omega), Nat.add_sub_cancel_left]
        by_cases hq : j = q
        · subst hq
          rw [if_pos rfl, if_pos rfl, if_pos (by omega), if_pos (by rw [pr_len3]; exact hj)]
        · rw [if_neg (by omega), if_neg hq, Array.getElem?_toList]
      · rw [List.getElem?_append_right (by rw [List.length_append]; omega), List.length_append, hlt, hls, if_neg (by omega), List.getElem?_drop, show k * 3 + 3 + (i - (k * 3 + 3)) = i by omega]
  unfold RoP
  rw [← e]
  exact hs
end
theorem flatP_read {w : World} {B : Nat} {A : Option Addr} {L : List Pw} (h : RsP w B A L) (hL : 0 < L.length) : ∃ b off, A = some ⟨b, off, none⟩ ∧ b < B ∧ ∀ j u, (flatP L)[j]? = some u → w.cell? ((⟨b, off, none⟩ : Addr).add j) = some u := by
  obtain ⟨b, off, e, hb, _⟩ := h 0 hL
  refine ⟨b, off, e, hb, fun j u hj => ?_⟩
  have hjl : j < L.length * 3 := by
    rw [← flatP_len]
    rcases Nat.lt_or_ge j (flatP L).length with h1 | h1
    · exact h1
    · rw [List.getElem?_eq_none h1] at hj; cases hj
  have hk : j / 3 < L.length := by omega
  obtain ⟨b', off', e', _, hc⟩ := h (j / 3) hk
  rw [e] at e'
  cases e'
  have hjj : j = j / 3 * 3 + j % 3 := by omega
  rw [hjj, flatP_get L (j / 3) (j % 3) hk (by omega)] at hj
  have := hc (j % 3) u (by rw [Array.getElem?_toList]; exact hj)
  rw [r_add, hjj, ← Nat.add_assoc]
  exact this
theorem run_app1P {w : World} (ty : TypeId) (base : Nat) (A : Option Addr) (m c : Nat) (L : List Pw) (ho : RoP w base A m c L) (x : Pw) (gb : Nat) (hb : w.heap[gb]? = some (.cells (prC x) 49 (0, 0))) (hsz : m + 1 ≤ 1000000) (hbase : base ≤ w.heap.size) :
    ∃ A' c' w', (Builtin.append_ #[25, 25] ty #[.slice A m c, .slice (some ⟨gb, 0, none⟩) 1 1]).run Tryz.prog w = .ok (.slice A' (m + 1) c') w' ∧ RoP w' base A' (m + 1) c' (L ++ [x]) ∧ w.grownBy w' (Value.slice A m c).ownBlock ∧ Below base w w' := by
  obtain ⟨i, hi, hz, hs1, hb1⟩ := info_parts pr_info3
  obtain ⟨v', w', hrun, h1, h2, _, h4⟩ := run_append_own_at (P := Tryz.prog) w base 25 ty 49 i (prV pw0) 3 40 Tryz.underlying25 hi hz hs1 hb1 rfl (by decide) _ m _ ho ⟨gb, 0, none⟩ 1 1 (prC x).toList
    (by rw [pr_len3]) (by
      intro j u hj
      rw [r_add, Nat.zero_add]
      simp only [World.cell?, hb]
      rw [← Array.getElem?_toList]
      exact hj) (pr_oneL x) (by simp only [maxLen]; omega) (by omega) hbase
  obtain ⟨A'', c'', rfl⟩ := own_slice h1
  exact ⟨A'', c'', w', hrun, by unfold RoP; rw [flatP_snoc]; exact h1, h2, (Below.refl _ _).grown h2 hbase fun k hk => (ho.lt k hk).1⟩
theorem wpList_app1P {w : World} {ops : Array Oper} {rest : List Oper} {o : Oper} {a : Act} {Q : Exit → Act → World → Prop} (hgd : o.guard = none) (s x' : Operand)
    (ho : o.op = .call { callee := .builtin .append, args := #[s, x'], argTypes := #[25, 25] })
    (base : Nat) (A : Option Addr) (m c : Nat) (L : List Pw) (hs : a.eval s = .slice A m c) (hn : RoP w base A m c L) (x : Pw) (gb : Nat) (hx' : a.eval x' = .slice (some ⟨gb, 0, none⟩) 1 1) (hb : w.heap[gb]? = some (.cells (prC x) 49 (0, 0))) (hsz : m + 1 ≤ 1000000) (hbase : base ≤ w.heap.size)
    (h : ∀ A' c' w', RoP w' base A' (m + 1) c' (L ++ [x]) → w.grownBy w' (Value.slice A m c).ownBlock → Below base w w' → wpList Tryz.prog ops Q rest (a.put o.dst (.slice A' (m + 1) c')) w') : wpList Tryz.prog ops Q (o :: rest) a w := by
  refine wpList_plain hgd fun K hK => ?_
  obtain ⟨A', c', w', hrun, h3, h4, h5⟩ := run_app1P o.type base A m c L hn x gb hb hsz hbase
  unfold Oper.wp execOp
  simp only [ho, resolve, invoke, builtin, Sem.run_bind, Sem.run_pure, Result.andThen_ok, List.map_toArray, List.map_cons, List.map_nil, hs, hx', hrun]
  exact hK _ _ (h A' c' w' h3 h4 h5)
theorem run_appP {w : World} (ty : TypeId) (base : Nat) (A : Option Addr) (m c : Nat) (L : List Pw) (ho : RoP w base A m c L) (hA : A ≠ none) (A2 : Option Addr) (B m2 c2 : Nat) (L2 : List Pw) (h2 : RsP w B A2 L2) (hm2 : m2 = L2.length) (hsz : m + m2 ≤ 1000000) (hbase : base ≤ w.heap.size) :
    ∃ A' c' w', (Builtin.append_ #[25, 25] ty #[.slice A m c, .slice A2 m2 c2]).run Tryz.prog w = .ok (.slice A' (m + m2) c') w' ∧ RoP w' base A' (m + m2) c' (L ++ L2) ∧ Below base w w' := by
  obtain ⟨i, hi, hz, hs1, hb1⟩ := info_parts pr_info3
  rcases Nat.eq_zero_or_pos m2 with h0 | hp
  · subst h0
    have hl2 : L2 = [] := List.eq_nil_of_length_eq_zero hm2.symm
    subst hl2
    rcases ho.form with ⟨e, _⟩ | ⟨g, rfl, hbg, hlt, cur, hh, h1, h3, h4, h5⟩
    · exact absurd e hA
    · refine ⟨some ⟨g, 0, none⟩, c, w, ?_, by simpa using ho, Below.refl _ _⟩
      cases A2 <;> simp [Builtin.append_, run_underlying Tryz.underlying25, sizeOf, typeInfo, hi, Builtin.lenOf, Builtin.firstCells, storeCells, loadCells, loadCellsFrom, h1]
  · obtain ⟨b, off, rfl, _, hcell⟩ := flatP_read h2 (by omega)
    obtain ⟨v', w', hrun, h3, h4, _, _⟩ := run_append_own_at (P := Tryz.prog) w base 25 ty 49 i (prV pw0) 3 40 Tryz.underlying25 hi hz hs1 hb1 rfl (by decide) _ m _ ho ⟨b, off, none⟩ m2 c2 (flatP L2) (by rw [flatP_len, hm2]) hcell
      (flatP_one L2) (by simp only [maxLen]; omega) (by omega) hbase
    obtain ⟨A'', c'', rfl⟩ := own_slice h3
    exact ⟨A'', c'', w', hrun, by unfold RoP; rw [flatP_append]; exact h3, (Below.refl _ _).grown h4 hbase fun k hk => (ho.lt k hk).1⟩
theorem wpList_appP {w : World} {ops : Array Oper} {rest : List Oper} {o : Oper} {a : Act} {Q : Exit → Act → World → Prop} (hgd : o.guard = none) (s x : Operand)
    (ho : o.op = .call { callee := .builtin .append, args := #[s, x], argTypes := #[25, 25] })
    (base : Nat) (A : Option Addr) (m c : Nat) (L : List Pw) (hs : a.eval s = .slice A m c) (hown : RoP w base A m c L) (hA : A ≠ none) (A2 : Option Addr) (B m2 c2 : Nat) (L2 : List Pw) (hx : a.eval x = .slice A2 m2 c2) (h2 : RsP w B A2 L2) (hm2 : m2 = L2.length) (hsz : m + m2 ≤ 1000000) (hbase : base ≤ w.heap.size)
    (h : ∀ A' c' w', RoP w' base A' (m + m2) c' (L ++ L2) → Below base w w' → wpList Tryz.prog ops Q rest (a.put o.dst (.slice A' (m + m2) c')) w') :
    wpList Tryz.prog ops Q (o :: rest) a w := by
  refine wpList_plain hgd fun K hK => ?_
  obtain ⟨A', c', w', hrun, h3, h4⟩ := run_appP o.type base A m c L hown hA A2 B m2 c2 L2 h2 hm2 hsz hbase
  unfold Oper.wp execOp
  simp only [ho, resolve, invoke, builtin, Sem.run_bind, Sem.run_pure, Result.andThen_ok, List.map_toArray, List.map_cons, List.map_nil, hs, hx, hrun]
  exact hK _ _ (h A' c' w' h3 h4)
theorem ro_emptyP (w : World) : RoP (w.alloc (.cells #[] 49)) w.heap.size (some ⟨w.heap.size, 0, none⟩) 0 0 [] := ro_blockP (Nat.le_refl _) (heap_alloc_new w _) (Nat.le_refl _) (by simp [maxLen]) rfl rfl rfl
theorem eql_nilP (A : Option Addr) (m c : Nat) (w : World) : (binOp .eql 25 (.slice A m c) (.slice none 0 0)).run Tryz.prog w = .ok (.bool A.isNone) w := by
  have h : ∀ d, (Op.equalIn (d + 1) 25 (.slice A m c) (.slice none 0 0)).run Tryz.prog w = .ok A.isNone w := fun d => by
    cases A <;> simp [Op.equalIn, run_underlying Tryz.underlying25]
  have h2 : (Op.equal 25 (.slice A m c) (.slice none 0 0)).run Tryz.prog w = .ok A.isNone w := h 9999
  simp [binOp, h2]
set_option maxRecDepth 100000 in
set_option maxHeartbeats 1000000 in
theorem clone_P (A : Option Addr) (m c : Nat) (L : List Pw) (w : World) (hA : RsP w w.heap.size A L) (hm : m = L.length) (h6 : m ≤ 100000) :
    Calls Tryz.prog 117 #[.slice A m c] w fun e w' => ∃ A' c', e = .returned (.slice A' m c') ∧ RoP w' w.heap.size A' m c' L ∧ Below w.heap.size w w' := by
  have hb := (Below.refl w.heap.size w).alloc (Nat.le_refl _) (.cells #[] 49)
  have hA1 := hA.below hb (Nat.le_refl _)
  have he := ro_emptyP w
  cases A with
  | none =>
    have hl : L = [] := by
      rcases L with _ | ⟨x, l⟩
      · rfl
      · obtain ⟨b, off, e, _⟩ := hA 0 (by simp)
        cases e
    subst hl
    simp at hm
    subst hm
    have en := fun w => eql_nilP none 0 c w
    simp only [Option.isNone_none] at en
    go_enter Tryz.func117, Tryz.ntmps117
    go_wp2
    go_ret
    exact ⟨none, 0, rfl, ro_nilP _ _, Below.refl _ _⟩
  | some a =>
    have en := fun w => eql_nilP (some a) m c w
    simp only [Option.isNone_some] at en
    have HM := Lib.hid hm
    clear hm
    go_enter Tryz.func117, Tryz.ntmps117
    go_wp2_with (at_builtin; with_reducible refine wpList_appP rfl (.tmp 5) (.tmp 6) rfl w.heap.size _ 0 0 [] rfl he (by simp) (some a) w.heap.size m c L rfl hA1 HM.out (by omega) (by simp) ?_; intro A2 c2 w2 ho hb2)
    go_ret
    simp only [Nat.zero_add, List.nil_append] at ho
    exact ⟨A2, c2, rfl, ho, hb.trans hb2⟩
end Go.Proofs.YtlelhhgggnjndaaGreat
namespace Go.Proofs.YtlelhhgggnjndaaGreat
open Go.RowKit Go.Shelf
set_option linter.unusedVariables false
set_option linter.unusedSimpArgs false
theorem own_kind {w w' : World} {base e size n : Nat} {v : Value} {xs : List Value} {row : Option Nat} (h : w.ownsRow base e size v n xs) (hg : w.grownBy w' row) (hr : ∀ g, row = some g → ∃ cs t, Blk w g cs t ∧ t ≠ e) : w'.ownsRow base e size v n xs := by
  refine ⟨h.1, ?_⟩
  rcases h.2 with h0 | ⟨g', cap, cur, hv, hb, hh, r⟩
  · exact .inl h0
  · refine .inr ⟨g', cap, cur, hv, hb, (hg.block g' (Array.getElem?_eq_some_iff.1 hh).1 (fun e1 => ?_)).trans hh, r⟩
    obtain ⟨cs, t, k, hne⟩ := hr g' e1.symm
    have := k.blk
    rw [hh] at this
    have h9 : e = t := by injection this with this; injection this
    exact hne h9.symm
theorem own_apart {w w' : World} {base e size n : Nat} {v : Value} {xs : List Value} {row : Option Nat} (h : w.ownsRow base e size v n xs) (hg : w.grownBy w' row) (hr : ∀ g, row = some g → v.ownBlock ≠ some g) : w'.ownsRow base e size v n xs := by
  refine ⟨h.1, ?_⟩
  rcases h.2 with h0 | ⟨g', cap, cur, hv, hb, hh, r⟩
  · exact .inl h0
  · refine .inr ⟨g', cap, cur, hv, hb, (hg.block g' (Array.getElem?_eq_some_iff.1 hh).1 (fun e1 => ?_)).trans hh, r⟩
    exact hr g' e1.symm (by rw [hv]; rfl)
theorem grown_but {w w' : World} {g : Nat} (n : But g w w') : w.grownBy w' (some g) := ⟨n.os, n.tape, n.output, n.size, fun k hk hne => n.block k hk (fun e => hne (by rw [e]))⟩
theorem but_grown {w w' : World} {g : Nat} (n : w.grownBy w' (some g)) : But g w w' := ⟨n.os, n.tape, n.output, n.size, fun k hk hne => n.block k hk (fun e => hne (Option.some.inj e))⟩
theorem zo_blk {w : World} {B m c : Nat} {A : Option Addr} {l : List Int} {g : Nat} (h : Zo w B A m c l) (hg : (Value.slice A m c).ownBlock = some g) : ∃ cur, Blk w g cur 3 := by
  rcases h.form with ⟨rfl, _⟩ | ⟨g', rfl, _, _, cur, hh, _⟩
  · cases hg
  · have e : some g' = some g := hg
    cases e
    exact ⟨cur, ⟨hh⟩⟩
theorem zo_at {w : World} {B m c : Nat} {A : Option Addr} {l : List Int} {g : Nat} (h : Zo w B A m c l) (hg : (Value.slice A m c).ownBlock = some g) : B ≤ g ∧ g < w.heap.size := by
  rcases h.form with ⟨rfl, _⟩ | ⟨g', rfl, hb, hl, _⟩
  · cases hg
  · have e : some g' = some g := hg
    cases e
    exact ⟨hb, hl⟩
theorem cell_but {w w' : World} {g b o : Nat} {v : Value} (n : But g w w') (h : w.cell? ⟨b, o, none⟩ = some v) (hne : b ≠ g) : w'.cell? ⟨b, o, none⟩ = some v := by
  have hb : b < w.heap.size := World.block_lt_of_cell? w _ h
  simp only [World.cell?] at h ⊢
  rw [n.block b hb hne]
  exact h
theorem range_but {w w' : World} {g b o : Nat} {cs : List Value} (n : But g w w') (h : w.rangeAt b o cs) (hne : b ≠ g) : w'.rangeAt b o cs := fun j v hv => cell_but n (h j v hv) hne
theorem blk_kind {w : World} {g : Nat} {cs ds : Array Value} {t u : TypeId} (h : Blk w g cs t) (k : Blk w g ds u) : t = u := by
  have := h.blk
  rw [k.blk] at this
  injection this with this
  injection this with _ h2 _
  exact h2.symm
theorem wpList_stf {P : Program} {ops : Array Oper} {rest : List Oper} {o : Oper} {a : Act} {w : World} {Q : Exit → Act → World → Prop} (hgd : o.guard = none) (ty : TypeId) (x y : Operand) (ho : o.op = .store ty x y)
    (g k : Nat) (cs : Array Value) (t : TypeId) (v : Value) (hx : a.eval x = .pointer (some ⟨g, k, none⟩)) (hy : a.eval y = v) (hb : Blk w g cs t) (hk : k < cs.size)
    (hi : (P.info? ty).map (·.size) = some 1) (hv : v.cells = #[v]) (h1 : v.oneCell' = true) (h : ∀ w', Blk w' g (cs.setIfInBounds k v) t → But g w w' → wpList P ops Q rest (a.put o.dst undef) w') : wpList P ops Q (o :: rest) a w := by
  refine wpList_plain hgd fun K hK => ?_
  have hs := run_storeCells_at (P := P) g k t [v] 0 cs w hb.blk (by simp; omega) (fun u hu => by simp at hu; subst hu; exact h1)
  have e : (cs.toList.take (k + 0) ++ [v] ++ cs.toList.drop (k + 0 + [v].length)).toArray = cs.setIfInBounds k v := by
    apply Array.ext'
    simp [List.set_eq_take_append_cons_drop, hk]
  rw [e] at hs
  cases hq : P.info? ty with
  | none => simp [hq] at hi
  | some i =>
    have hs' : i.size = 1 := by simpa [hq] using hi
    have hrun : (storeVar ty ⟨g, k, none⟩ v).run P w = .ok () (w.setRow g (cs.setIfInBounds k v)) := by simp [storeVar, sizeOf, typeInfo, hq, hv, hs', hs]
    unfold Oper.wp execOp
    simp only [ho, hx, hy, Instr.storeAt, Instr.sureAddr, Sem.run_bind, Sem.run_pure, Result.andThen_ok, hrun]
    have q := setRow_blk (cs' := cs.setIfInBounds k v) hb
    exact hK _ _ (h _ q.1 q.2)
theorem results_row_t2 {P : Program} {fn : Func} {p u v : Tmp} {ty : TypeId} (h : fn.results = #[.cell p ty, .tmp u, .tmp v]) (tmps : Array Value) (w : World) (g : Nat) (t : TypeId) (cs : Array Value) (d : TypeDesc)
    (hp : tmps.getD p undef = .pointer (some ⟨g, 0, none⟩)) (hg : Blk w g cs t)
    (hu : P.underlying ty = some d) (hd : (match d with | .struct _ | .array _ _ => true | _ => false) = true) (hi : (P.info? ty).map (·.size) = some cs.size) (x y : Value) (hx : tmps.getD u undef = x) (hy : tmps.getD v undef = y) :
    (results fn tmps).run P w = .ok (.tuple #[.agg cs, x, y]) w := by
  subst hx hy
  have hp' : tmps[p]?.getD undef = .pointer (some ⟨g, 0, none⟩) := by simpa using hp
  simp [results, h, hp', asAddr, run_loadVar_row w g t ty cs (0, 0) d hg.blk hu hd hi]
theorem run_app1K {w : World} (ty : TypeId) (base : Nat) (A : Option Addr) (m c : Nat) (l : List Int) (ho : Zo w base A m c l) (p : Int) (gb : Nat) (hb : Blk w gb #[.int .i64 p] 3) (hsz : m + 1 ≤ 2000000) (hbase : base ≤ w.heap.size) :
    ∃ A' c' w', (Builtin.append_ #[22, 22] ty #[.slice A m c, .slice (some ⟨gb, 0, none⟩) 1 1]).run Tryz.prog w = .ok (.slice A' (m + 1) c') w' ∧ Zo w' base A' (m + 1) c' (l ++ [p]) ∧ w.grownBy w' (Value.slice A m c).ownBlock ∧ Below base w w' ∧ ((Value.slice A' (m + 1) c').ownBlock = (Value.slice A m c).ownBlock ∨ (Value.slice A' (m + 1) c').ownBlock = some w.heap.size) := by
  obtain ⟨i, hi, hz, hs1, hb1⟩ := info_parts zint_info
  have hr : w.cell? ⟨gb, 0, none⟩ = some (.int .i64 p) := hb.cell 0
  obtain ⟨v', w', hrun, h1, h2, _, h4⟩ := run_append_own_at (P := Tryz.prog) w base 22 ty 3 i (.int .i64 0) 1 8 Tryz.underlying22 hi hz hs1 hb1 rfl (by decide) _ m _ ho ⟨gb, 0, none⟩ 1 1 [.int .i64 p]
    rfl (by
      intro j u hj
      have : j = 0 := by
        rcases j with _ | j
        · rfl
        · simp at hj
      subst this
      simp at hj
      subst hj
      simpa [Addr.add] using hr) (by intro u hu; simp at hu; subst hu; rfl) (by simp only [maxLen]; omega) (by omega) hbase
  obtain ⟨A'', c'', rfl⟩ := own_slice h1
  exact ⟨A'', c'', w', hrun, by unfold Zo; rw [List.map_append]; exact h1, h2, (Below.refl _ _).grown h2 hbase fun k hk => (ho.lt k hk).1, h4⟩
theorem wpList_app1K {w : World} {ops : Array Oper} {rest : List Oper} {o : Oper} {a : Act} {Q : Exit → Act → World → Prop} (hgd : o.guard = none) (s x : Operand)
    (ho : o.op = .call { callee := .builtin .append, args := #[s, x], argTypes := #[22, 22] })
    (base : Nat) (A : Option Addr) (m c : Nat) (l : List Int) (hs : a.eval s = .slice A m c) (hown : Zo w base A m c l) (p : Int) (gb : Nat) (hx : a.eval x = .slice (some ⟨gb, 0, none⟩) 1 1) (hb : Blk w gb #[.int .i64 p] 3) (hsz : m + 1 ≤ 2000000) (hbase : base ≤ w.heap.size)
    (h : ∀ A' c' w', Zo w' base A' (m + 1) c' (l ++ [p]) → w.grownBy w' (Value.slice A m c).ownBlock → Below base w w' → ((Value.slice A' (m + 1) c').ownBlock = (Value.slice A m c).ownBlock ∨ (Value.slice A' (m + 1) c').ownBlock = some w.heap.size) → wpList Tryz.prog ops Q rest (a.put o.dst (.slice A' (m + 1) c')) w') :
    wpList Tryz.prog ops Q (o :: rest) a w := by
  refine wpList_plain hgd fun K hK => ?_
  obtain ⟨A', c', w', hrun, h1, h2, h3, h4⟩ := run_app1K o.type base A m c l hown p gb hb hsz hbase
  unfold Oper.wp execOp
  simp only [ho, resolve, invoke, builtin, Sem.run_bind, Sem.run_pure, Result.andThen_ok, List.map_toArray, List.map_cons, List.map_nil, hs, hx, hrun]
  exact hK _ _ (h A' c' w' h1 h2 h3 h4)
end Go.Proofs.YtlelhhgggnjndaaGreat
namespace Go.Proofs.YtlelhhgggnjndaaGreat
open Go.RowKit Go.Shelf
set_option linter.unusedVariables false
set_option linter.unusedSimpArgs false
structure Tk (w : World) (B : Nat) (Ua : Option Addr) (um uc : Nat) (U : List Int) (A : Option Addr) (m c : Nat) (L : List Pw) : Prop where
  u : Ri7 w B Ua U
  ul : um = U.length
  u6 : um ≤ 1000000
  p : Ps w B A L
  pl : m = L.length
  p6 : m ≤ 100000
  n : (thrF 0 L).length ≤ 1000000
def ownT (x : Pw) : Option Nat := (Value.slice x.2.1 x.1.t.length x.2.2).ownBlock
structure OwnT (V : World) (B : Nat) (Ua : Option Addr) (um uc : Nat) (U : List Int) (A : Option Addr) (m c : Nat) (L : List Pw) : Prop where
  u : Zo V B Ua um uc U
  p : RoP V B A m c L
  q : ∀ x ∈ L, Zo V B x.2.1 x.1.t.length x.2.2 x.1.t
  qd : ∀ i j, i < L.length → j < L.length → i ≠ j → ∀ g, ownT (L.getD i pw0) = some g → ownT (L.getD j pw0) ≠ some g
  ud : ∀ x ∈ L, ∀ g, ownT x = some g → (Value.slice Ua um uc).ownBlock ≠ some g
structure FrT (B : Nat) (Ua A : Option Addr) (L : List Pw) : Prop where
  u : ∀ a, Ua = some a → B ≤ a.block
  p : ∀ a, A = some a → B ≤ a.block
  q : ∀ x ∈ L, ∀ a, x.2.1 = some a → B ≤ a.block
section
variable {V V' : World} {B B' um uc m c g : Nat} {Ua A : Option Addr} {U : List Int} {L : List Pw}
theorem Tk.below (h : Tk V B Ua um uc U A m c L) (b : Below B' V V') (hB : B ≤ B') : Tk V' B Ua um uc U A m c L := ⟨h.u.below b hB, h.ul, h.u6, h.p.below b hB, h.pl, h.p6, h.n⟩
theorem Tk.more (h : Tk V B Ua um uc U A m c L) (hB : B ≤ B') : Tk V B' Ua um uc U A m c L := ⟨h.u.more hB, h.ul, h.u6, h.p.more hB, h.pl, h.p6, h.n⟩
theorem Tk.on (h : Tk V V.heap.size Ua um uc U A m c L) (b : Below V.heap.size V V') : Tk V' V'.heap.size Ua um uc U A m c L := (h.below b (Nat.le_refl _)).more b.size
theorem zo_tr {x : Pw} (h : Zo V B x.2.1 x.1.t.length x.2.2 x.1.t) (hl : x.1.t.length ≤ 1000000) : Tr V V.heap.size x := ⟨h.ri, h.cap, hl⟩
theorem OwnT.tk (h : OwnT V B Ua um uc U A m c L) (h1 : um ≤ 1000000) (h2 : m ≤ 100000) (hq : ∀ x ∈ L, x.1.t.length ≤ 1000000) (hn : (thrF 0 L).length ≤ 1000000) : Tk V V.heap.size Ua um uc U A m c L :=
  ⟨h.u.ri, h.u.len, h1, ⟨fun k hk => h.p.rs k hk, fun x hx => zo_tr (h.q x hx) (hq x hx)⟩, h.p.len, h2, hn⟩
theorem OwnT.fr (h : OwnT V B Ua um uc U A m c L) : FrT B Ua A L := ⟨fun a e => by
    rcases h.u.form with ⟨e0, _⟩ | ⟨g, e0, hb, _⟩
    · rw [e0] at e; cases e
    · rw [e0] at e; cases e; exact hb, fun a e => by
    rcases h.p.form with ⟨e0, _⟩ | ⟨g, e0, hb, _⟩
    · rw [e0] at e; cases e
    · rw [e0] at e; cases e; exact hb, fun x hx a e => by
    rcases (h.q x hx).form with ⟨e0, _⟩ | ⟨g, e0, hb, _⟩
    · rw [e0] at e; cases e
    · rw [e0] at e; cases e; exact hb⟩
theorem OwnT.below (h : OwnT V B Ua um uc U A m c L) (b : Below B' V V') (hB : V.heap.size ≤ B') : OwnT V' B Ua um uc U A m c L := ⟨h.u.below b hB, h.p.below b hB, fun x hx => (h.q x hx).below b hB, h.qd, h.ud⟩
theorem OwnT.down (h : OwnT V B Ua um uc U A m c L) (hB : B' ≤ B) : OwnT V B' Ua um uc U A m c L := ⟨h.u.down hB, h.p.down hB, fun x hx => (h.q x hx).down hB, h.qd, h.ud⟩
theorem OwnT.kind {cs : Array Value} {t : TypeId} (h : OwnT V B Ua um uc U A m c L) (n : But g V V') (k : Blk V g cs t) (h1 : t ≠ 49) (h2 : t ≠ 3) : OwnT V' B Ua um uc U A m c L :=
  ⟨own_kind h.u (grown_but n) (fun g' e => by cases e; exact ⟨cs, t, k, h2⟩), own_kind h.p (grown_but n) (fun g' e => by cases e; exact ⟨cs, t, k, h1⟩), fun x hx => own_kind (h.q x hx) (grown_but n) (fun g' e => by cases e; exact ⟨cs, t, k, h2⟩), h.qd, h.ud⟩
theorem roP_blk (h : RoP V B A m c L) (hg : (Value.slice A m c).ownBlock = some g) : ∃ cur, Blk V g cur 49 := by
  rcases h.form with ⟨rfl, _⟩ | ⟨g', rfl, _, _, cur, hh, _⟩
  · cases hg
  · have e : some g' = some g := hg
    cases e
    exact ⟨cur, ⟨hh⟩⟩
theorem Tk.off (h : Tk V V.heap.size Ua um uc U A m c L) (f : FrT B Ua A L) (n : But g V V') (hg : g < B) : Tk V' V'.heap.size Ua um uc U A m c L :=
  ⟨fun k hk => by
    obtain ⟨b, off, e, h1, h2⟩ := h.u k hk
    have := f.u _ e
    have hs := n.size
    exact ⟨b, off, e, by omega, cell_but n h2 (by simp only at this; omega)⟩, h.ul, h.u6, ⟨fun k hk => by
    obtain ⟨b, off, e, h1, h2⟩ := h.p.at_ k hk
    have := f.p _ e
    have hs := n.size
    exact ⟨b, off, e, by omega, range_but n h2 (by simp only at this; omega)⟩, fun x hx => ⟨fun k hk => by
      obtain ⟨b, off, e, h1, h2⟩ := (h.p.tr x hx).ri k hk
      have := f.q x hx _ e
      have hs := n.size
      exact ⟨b, off, e, by omega, cell_but n h2 (by simp only at this; omega)⟩, (h.p.tr x hx).le, (h.p.tr x hx).l⟩⟩, h.pl, h.p6, h.n⟩
end
theorem getD_namesP {L M : List Pw} (h : L.map (·.1) = M.map (·.1)) (j : Nat) : (L.getD j pw0).1 = (M.getD j pw0).1 := by
  have := congrArg (fun l => l[j]?) h
  simp only [List.getElem?_map] at this
  simp only [List.getD]
  cases h1 : L[j]? <;> cases h2 : M[j]? <;> rw [h1, h2] at this <;> simp at this
  · exact this
theorem names_setP {L : List Pw} {k : Nat} {y : Pw} (hk : k < L.length) (hy : y.1 = (L.getD k pw0).1) : (L.set k y).map (·.1) = L.map (·.1) := by
  rw [List.map_set, hy, show (L.getD k pw0).1 = (L.map (·.1))[k]'(by simpa using hk) by simp [List.getD, hk], List.set_getElem_self]
theorem getD_setP {L : List Pw} {k j : Nat} {y : Pw} (hk : k < L.length) : (L.set k y).getD j pw0 = if j = k then y else L.getD j pw0 := by
  simp only [List.getD, List.getElem?_set]
  by_cases h : k = j
  · subst h; simp [hk]
  · rw [if_neg h, if_neg (fun e => h e.symm)]
theorem thrF_names : ∀ (k : Nat) (L M : List Pw), L.map (·.1) = M.map (·.1) → thrF k L = thrF k M
  | k, [], [], _ => rfl
  | k, [], y :: M, h => by simp at h
  | k, x :: L, [], h => by simp at h
  | k, x :: L, y :: M, h => by
    rw [List.map_cons, List.map_cons] at h
    injection h with h1 h2
    rw [thrF, thrF, h1, thrF_names (k + 1) L M h2]
end Go.Proofs.YtlelhhgggnjndaaGreat
namespace Go.Proofs.YtlelhhgggnjndaaGreat
open Go.RowKit Go.Shelf
set_option linter.unusedVariables false
set_option linter.unusedSimpArgs false
theorem wp_appZ {w : World} {o : Oper} {a : Act} {K : Act → World → Prop} {Q : Exit → Act → World → Prop} (s x : Operand)
    (ho : o.op = .call { callee := .builtin .append, args := #[s, x], argTypes := #[22, 22] })
    (base : Nat) (A : Option Addr) (m c : Nat) (l : List Int) (hs : a.eval s = .slice A m c) (hown : Zo w base A m c l) (hA : A ≠ none) (A2 : Option Addr) (B m2 c2 : Nat) (l2 : List Int) (hx : a.eval x = .slice A2 m2 c2) (h2 : Ri7 w B A2 l2) (hm2 : m2 = l2.length) (hsz : m + m2 ≤ 2000000) (hbase : base ≤ w.heap.size)
    (h : ∀ A' c' w', Zo w' base A' (m + m2) c' (l ++ l2) → Below base w w' → K (a.put o.dst (.slice A' (m + m2) c')) w') : o.wp Tryz.prog a w K Q := by
  obtain ⟨A', c', w', hrun, h3, h4⟩ := run_appZ o.type base A m c l hown hA A2 B m2 c2 l2 h2 hm2 hsz hbase
  unfold Oper.wp execOp
  simp only [ho, resolve, invoke, builtin, Sem.run_bind, Sem.run_pure, Result.andThen_ok, List.map_toArray, List.map_cons, List.map_nil, hs, hx, hrun]
  exact h A' c' w' h3 h4
theorem FS.step2 {w V V' : World} {a : Int} {A : Option Addr} {m c B : Nat} (h : FS w a A m c V) (hb : Below B V V') (hB : w.heap.size < B) : FS w a A m c V' := ⟨h.1.trans (hb.mono (by omega)), h.2.below hb hB⟩
theorem Ri7.take {w : World} {B : Nat} {A : Option Addr} {l : List Int} (h : Ri7 w B A l) (n : Nat) : Ri7 w B A (l.take n) := fun k hk => by
  rw [List.length_take] at hk
  obtain ⟨b, off, e, h1, h2⟩ := h k (by omega)
  refine ⟨b, off, e, h1, h2.trans ?_⟩
  have hkn : k < n := by omega
  simp [List.getD, hkn]
end Go.Proofs.YtlelhhgggnjndaaGreat
namespace Go.Proofs.YtlelhhgggnjndaaGreat
open Go.RowKit Go.Shelf
set_option linter.unusedVariables false
set_option linter.unusedSimpArgs false
theorem zo_apart {w : World} {base m c g : Nat} {A : Option Addr} {l : List Int} (h : Zo w base A m c l) (hg : g < base) : some g ≠ (Value.slice A m c).ownBlock := fun e => by have := (h.lt _ e.symm).1; omega
theorem new_blk {w w' : World} {cs : Array Value} {t : TypeId} (n : But w.heap.size (w.alloc (.cells cs t)) w') : Below w.heap.size w w' := ((Below.refl _ w).alloc (Nat.le_refl _) _).trans (n.below _ (Nat.le_refl _) (by simp))
theorem take_some {a : Int} {l : List Int} {i : Nat} (h : Ids a l) (hn : nextP a.toNat l = some i) : takeV a l = (((cand a.toNat i : Nat) : Int), insP l ((cand a.toNat i : Nat) : Int), ((cand a.toNat i : Nat) : Int), 0) := by
  unfold takeV
  rw [if_pos (ids_iff.2 h), hn]
theorem take_full {a : Int} {l : List Int} (h : Ids a l) (hl : l.length = 20) : takeV a l = (0, [], 0, 24) := by
  unfold takeV
  rw [if_pos (ids_iff.2 h), h.none_iff.2 hl]
theorem free_yes {a : Int} {l : List Int} {x : Int} (h : Ids a l) (hx : x ∈ l) : freeV a l x = (a, delP l x, 0) := by
  unfold freeV
  rw [if_pos (ids_iff.2 h), if_pos (by simpa using hx)]
theorem free_none {a : Int} {l : List Int} {x : Int} (h : Ids a l) (hx : x ∉ l) : freeV a l x = (0, [], 4) := by
  unfold freeV
  rw [if_pos (ids_iff.2 h), if_neg (by simpa using hx)]
end Go.Proofs.YtlelhhgggnjndaaGreat
namespace Go.Proofs.YtlelhhgggnjndaaGreat
open Go.RowKit Go.Shelf
set_option linter.unusedVariables false
set_option linter.unusedSimpArgs false
theorem pidE_bool (a : Int) (l : List Int) : (pidE a l == 0) = (decide (0 ≤ a) && (decide (a ≤ 20) && riseP 0 l)) := by
  unfold pidE
  split
  · rename_i h; rw [h]; rfl
  · rename_i h; rw [Bool.not_eq_true] at h; rw [h]; rfl
set_option maxRecDepth 100000 in
set_option maxHeartbeats 8000000 in
theorem rright_pid (a : Int) (A : Option Addr) (m c : Nat) (l : List Int) (w : World) (hA : Ri7 w w.heap.size A l) (hm : m = l.length) (h6 : m ≤ 1000000) :
    Calls Tryz.prog 45 #[pdV a A m c] w fun e w' => e = .returned (.bool (pidE a l == 0)) ∧ Below w.heap.size w w' := by
  have k1 := Blk.new w (pdC a A m c) 24
  have B0 := (Below.refl w.heap.size w).alloc (Nat.le_refl _) (.cells (pdC a A m c) 24)
  have q0 : _ = some (Value.int .i64 a) := k1.cell 0
  have q1 : _ = some (Value.slice A m c) := k1.cell 1
  rw [pidE_bool]
  have HM := Lib.hid hm
  clear hm
  unfold pdV pdC at *
  cases h1 : decide (a < 0)
  · cases h2 : decide (20 < a)
    · have e0 : decide (0 ≤ a) = true := by simpa using h1
      have e1 : decide (a ≤ 20) = true := by simpa using h2
      rw [e0, e1, Bool.true_and, Bool.true_and]
      clear e0 e1
      go_enter Tryz.func45, Tryz.ntmps45
      go_wp2_with fail
      have hb0 : Blk (w.alloc (.cells #[.int .i64 a, .slice A m c] 24)) w.heap.size #[.int .i64 a, .slice A m c] 24 := k1
      clear q0 q1 k1
      generalize w.alloc (.cells #[.int .i64 a, .slice A m c] 24) = w0 at B0 hb0 ⊢
      go_loopw [16] (fun i wr' => ∃ (k : Nat) (lv : Int) (wr : World), wr = wr' ∧ k ≤ m ∧ i = .int .i64 k ∧ Hid (riseP 0 l = riseP lv (l.drop k)) ∧ Hid ((k = 0 ∧ lv = 0) ∨ (0 < k ∧ lv = l.getD (k - 1) 0 ∧ 1 ≤ lv)) ∧ Blk wr w.heap.size #[.int .i64 a, .slice A m c] 24 ∧ Below w.heap.size w wr) (fun i _ => m - (intOf i).toNat)
      case atStart => exact ⟨0, 0, _, rfl, Nat.zero_le _, rfl, Lib.hid (by simp), Lib.hid (.inl ⟨rfl, rfl⟩), hb0, B0⟩
      case round =>
        clear B0 hb0
        obtain ⟨k, lv, wr, hwr, hk, rfl, hinv, hlv, hbx, hB⟩ := hrel
        subst hwr
        by_cases hlt : k < m
        · have hlt' : (k : Int) < (m : Int) := by omega
          have hkl : k < l.length := by have := HM.out; omega
          obtain ⟨b, off, rfl, hb, hc⟩ := hA.below hB (Nat.le_refl _) k hkl
          have hin := hinv.out
          rw [riseP_drop hkl] at hin
          have hnext : l.getD k 0 = l.getD (k + 1 - 1) 0 := rfl
          have q1 : wr.cell? ⟨w.heap.size, 1, none⟩ = some (.slice (some ⟨b, off, none⟩) m c) := hbx.cell 1
          rcases hlv.out with ⟨hk0, rfl⟩ | ⟨hk0, hl1, hl2⟩
          · have hkp : ¬ (0 : Int) < (k : Int) := by omega
            generalize hy : l.getD k 0 = y at hc hin
            have HK0 := Lib.hid hk0
            clear hk0
            have HY := Lib.hid hy
            clear hy hnext hinv hlv
            cases h3 : decide (y < 1)
            · cases h4 : decide (20 < y)
              · have hi : riseP 0 l = riseP y (l.drop (k + 1)) := by rw [hin, decide_eq_true (by simp at h3; omega : (0 : Int) < y), decide_eq_true (by simpa using h4 : y ≤ 20)]; rfl
                have HI := Lib.hid hi
                have HY1 := Lib.hid (show 1 ≤ y by simpa using h3)
                clear hi hin
                go_wp2_with fail
                go_roundw
                case rel => exact ⟨k + 1, y, _, rfl, by omega, by go_num, HI, Lib.hid (.inr ⟨by omega, HY.out.symm, HY1.out⟩), hbx, hB⟩
                case measure => simp [intOf]; omega
              · have hi : riseP 0 l = false := by rw [hin, decide_eq_false (by simp at h4; omega : ¬ y ≤ 20)]; simp
                have HI := Lib.hid hi
                clear hi hin
                go_wp2_with fail
                go_ret
                exact ⟨by rw [HI.out]; rfl, hB⟩
            · have hi : riseP 0 l = false := by rw [hin, decide_eq_false (by simp at h3; omega : ¬ (0 : Int) < y)]; simp
              have HI := Lib.hid hi
              clear hi hin
              go_wp2_with fail
              go_ret
              exact ⟨by rw [HI.out]; rfl, hB⟩
          · obtain ⟨b', off', eb, _, hc1⟩ := hA.below hB (Nat.le_refl _) (k - 1) (by omega)
            cases eb
            rw [← hl1] at hc1
            generalize hy : l.getD k 0 = y at hc hin
            have HY := Lib.hid hy
            have hk1 : IntKind.i64.wrap ((k : Int) - 1) = ((k - 1 : Nat) : Int) := by rw [IntKind.wrap_i64]; omega
            have hkp : (0 : Int) < (k : Int) := by omega
            have e5 : ((k : Int) - 1) = ((k - 1 : Nat) : Int) := by omega
            have e6 : ((k : Int) - 1).toNat = k - 1 := by omega
            have hl2' := Lib.hid hl2
            clear hy hnext hinv hlv hl1 hl2
            cases h3 : decide (y < 1)
            · cases h4 : decide (20 < y)
              · cases h5 : decide (y ≤ lv)
                · have hi : riseP 0 l = riseP y (l.drop (k + 1)) := by rw [hin, decide_eq_true (by simpa using h5 : lv < y), decide_eq_true (by simpa using h4 : y ≤ 20)]; rfl
                  have HI := Lib.hid hi
                  have HY1 := Lib.hid (show 1 ≤ y by simpa using h3)
                  clear hi hin
                  go_wp2_with fail
                  go_roundw
                  case rel => exact ⟨k + 1, y, _, rfl, by omega, by go_num, HI, Lib.hid (.inr ⟨by omega, HY.out.symm, HY1.out⟩), hbx, hB⟩
                  case measure => simp [intOf]; omega
                · have hi : riseP 0 l = false := by rw [hin, decide_eq_false (by simp at h5; omega : ¬ lv < y)]; simp
                  have HI := Lib.hid hi
                  clear hi hin
                  go_wp2_with fail
                  go_ret
                  exact ⟨by rw [HI.out]; rfl, hB⟩
              · have hi : riseP 0 l = false := by rw [hin, decide_eq_false (by simp at h4; omega : ¬ y ≤ 20)]; simp
                have HI := Lib.hid hi
                clear hi hin
                go_wp2_with fail
                go_ret
                exact ⟨by rw [HI.out]; rfl, hB⟩
            · have hi : riseP 0 l = false := by rw [hin, decide_eq_false (by simp at h3; have := hl2'.out; omega : ¬ lv < y)]; simp
              have HI := Lib.hid hi
              clear hi hin
              go_wp2_with fail
              go_ret
              exact ⟨by rw [HI.out]; rfl, hB⟩
        · obtain rfl : k = m := by omega
          have hi := hinv.out
          rw [HM.out, List.drop_length] at hi
          have HI := Lib.hid hi
          clear hi
          go_wp2_with fail
          go_ret
          exact ⟨by rw [HI.out]; rfl, hB⟩
    · have e1 : decide (a ≤ 20) = false := by simp at h2 ⊢; omega
      rw [e1, Bool.false_and, Bool.and_false]
      clear e1
      go_enter Tryz.func45, Tryz.ntmps45
      go_wp2_with fail
      go_ret
      exact ⟨rfl, B0⟩
  · have e1 : decide (0 ≤ a) = false := by simp at h1 ⊢; omega
    rw [e1, Bool.false_and]
    clear e1
    go_enter Tryz.func45, Tryz.ntmps45
    go_wp2_with fail
    go_ret
    exact ⟨rfl, B0⟩
theorem has_drop {l : List Int} {k : Nat} {x : Int} (h : k < l.length) : (l.drop k).contains x = ((l.getD k 0 == x) || (l.drop (k + 1)).contains x) := by
  rw [List.drop_eq_getElem_cons h, List.contains_cons]
  have e : l.getD k 0 = l[k] := by simp [List.getD, h]
  rw [e]
  congr 1
  rw [Bool.eq_iff_iff, beq_iff_eq, beq_iff_eq]
  exact eq_comm
set_option maxRecDepth 100000 in
set_option maxHeartbeats 4000000 in
theorem rhas_pid (a : Int) (A : Option Addr) (m c : Nat) (l : List Int) (x : Int) (w : World) (hA : Ri7 w w.heap.size A l) (hm : m = l.length) (h6 : m ≤ 1000000) :
    Calls Tryz.prog 103 #[pdV a A m c, .int .i64 x] w fun e w' => e = .returned (.bool (l.contains x)) ∧ Below w.heap.size w w' := by
  have k1 := Blk.new w (pdC a A m c) 24
  have B0 := (Below.refl w.heap.size w).alloc (Nat.le_refl _) (.cells (pdC a A m c) 24)
  have q1 : _ = some (Value.slice A m c) := k1.cell 1
  have HM := Lib.hid hm
  clear hm
  unfold pdV pdC at *
  go_enter Tryz.func103, Tryz.ntmps103
  go_wp2_with fail
  clear q1 k1
  generalize w.alloc (.cells #[.int .i64 a, .slice A m c] 24) = w0 at B0 ⊢
  go_loopw [10] (fun i wr' => ∃ (k : Nat) (wr : World), wr = wr' ∧ k ≤ m ∧ i = .int .i64 k ∧ Hid (l.contains x = (l.drop k).contains x) ∧ Below w.heap.size w wr) (fun i _ => m - (intOf i).toNat)
  case atStart => exact ⟨0, _, rfl, Nat.zero_le _, rfl, Lib.hid (by simp), B0⟩
  case round =>
    clear B0
    obtain ⟨k, wr, hwr, hk, rfl, hinv, hB⟩ := hrel
    subst hwr
    by_cases hlt : k < m
    · have hlt' : (k : Int) < (m : Int) := by omega
      have hkl : k < l.length := by have := HM.out; omega
      obtain ⟨b, off, rfl, hb, hc⟩ := hA.below hB (Nat.le_refl _) k hkl
      have hin := hinv.out
      rw [has_drop hkl] at hin
      generalize l.getD k 0 = y at hc hin
      clear hinv
      cases h3 : (y == x)
      · rw [h3, Bool.false_or] at hin
        have HI := Lib.hid hin
        clear hin
        go_wp2_with fail
        go_roundw
        case rel => exact ⟨k + 1, _, rfl, by omega, by go_num, HI, hB⟩
        case measure => simp [intOf]; omega
      · rw [h3, Bool.true_or] at hin
        have HI := Lib.hid hin
        clear hin
        go_wp2_with fail
        go_ret
        exact ⟨by rw [HI.out]; rfl, hB⟩
    · obtain rfl : k = m := by omega
      have hi := hinv.out
      rw [HM.out, List.drop_length] at hi
      have HI := Lib.hid hi
      clear hi
      go_wp2_with fail
      go_ret
      exact ⟨by rw [HI.out]; rfl, hB⟩
end Go.Proofs.YtlelhhgggnjndaaGreat
namespace Go.Proofs.YtlelhhgggnjndaaGreat
open Go.RowKit Go.Shelf
set_option linter.unusedVariables false
set_option linter.unusedSimpArgs false
set_option maxRecDepth 100000 in
set_option maxHeartbeats 4000000 in
theorem rcopy_pid (a : Int) (A : Option Addr) (m c : Nat) (l : List Int) (w : World) (hA : Ri7 w w.heap.size A l) (hm : m = l.length) (h6 : m ≤ 1000000) :
    Calls Tryz.prog 38 #[pdV a A m c] w fun e w' => ∃ A' m' c', e = .returned (pdV a A' m' c') ∧ Zo w' w.heap.size A' m' c' l ∧ Below w.heap.size w w' := by
  have k1 := (Blk.new w (pdC a A m c) 24).alloc (.cells (pdC 0 none 0 0) 24)
  have k2 := Blk.new_ (w.alloc (.cells (pdC a A m c) 24)) (pdC 0 none 0 0) 24 (n := w.heap.size + 1) (by simp)
  have B0 := ((Below.refl w.heap.size w).alloc (Nat.le_refl _) (.cells (pdC a A m c) 24)).alloc (by simp) (.cells (pdC 0 none 0 0) 24)
  have HM := Lib.hid hm
  clear hm
  unfold pdV
  go_enter Tryz.func38, Tryz.ntmps38
  go_wp2_with fail
  have HS : FS w a A m c ((w.alloc (.cells (pdC a A m c) 24)).alloc (.cells (pdC 0 none 0 0) 24)).drew := ⟨B0.drew, k1.drew⟩
  have k21 := k2.drew
  show Code.wp _ _ _ _ ((w.alloc (.cells (pdC a A m c) 24)).alloc (.cells (pdC 0 none 0 0) 24))
  generalize (w.alloc (.cells (pdC a A m c) 24)).alloc (.cells (pdC 0 none 0 0) 24) = W9 at HS k21 ⊢
  clear k1 k2 B0
  refine region_cutP ?_
  refine wp_region_held_drew (S := FS w a A m c) (by kernel_rfl) HS (fun _ => ?_)
  refine wpAnyH_take (i := 0) (v := .pointer (some ⟨w.heap.size, 0, none⟩)) rfl (by kernel_rfl) (by kernel_rfl) (by kernel_rfl) (fun _ _ _ h => nomatch h.1) (.inl ⟨by rfl, fun V hV => by go_simp⟩) HS ?_
  try simp only [Act.put, qA, qB, qC, qD, qE, qF]
  refine wpAnyH_take (i := 1) (v := .int .i64 a) rfl (by kernel_rfl) (by kernel_rfl) (by kernel_rfl) (fun _ _ _ h => nomatch h.1) (.inl ⟨by rfl, fun V hV => by have c0 := hV.2.cell 0; simp only [pdC, List.getElem?_toArray, List.getElem?_cons_zero, List.getElem?_cons_succ] at c0; go_simp⟩) HS ?_
  try simp only [Act.put, qA, qB, qC, qD, qE, qF]
  refine wpAnyH_take (i := 3) (v := .pointer (some ⟨w.heap.size, 1, none⟩)) rfl (by kernel_rfl) (by kernel_rfl) (by kernel_rfl) (fun _ _ _ h => nomatch h.1) (.inl ⟨by rfl, fun V hV => by go_simp⟩) HS ?_
  try simp only [Act.put, qA, qB, qC, qD, qE, qF]
  refine wpAnyH_take (i := 4) (v := .slice A m c) rfl (by kernel_rfl) (by kernel_rfl) (by kernel_rfl) (fun _ _ _ h => nomatch h.1) (.inl ⟨by rfl, fun V hV => by have c0 := hV.2.cell 1; simp only [pdC, List.getElem?_toArray, List.getElem?_cons_zero, List.getElem?_cons_succ] at c0; go_simp⟩) HS ?_
  try simp only [Act.put, qA, qB, qC, qD, qE, qF]
  refine wpAnyH_ready (rs := [2]) (by kernel_rfl) (by simp) ?_
  refine AllReadyH.cons rfl (fun K hK => ?_) AllReadyH.nil
  try simp only [Act.put, qA, qB, qC, qD, qE, qF]
  go_simp
  refine hK.out _ _ (HS.step ((Below.refl _ _).alloc (Nat.le_refl _) _) ((Below.refl _ _).alloc (Nat.le_refl _) _)) (fun _ => ?_)
  clear hK K
  try simp only [Act.put, qA, qB, qC, qD, qE, qF]
  have hA1 : Ri7 (W9.drew.alloc (.cells #[] 3)) w.heap.size A l := hA.below (HS.1.alloc (by have := HS.1.size; omega) _) (Nat.le_refl _)
  have HS1 := HS.step ((Below.refl _ _).alloc (Nat.le_refl _) (.cells #[] 3)) ((Below.refl _ _).alloc (Nat.le_refl _) _)
  have k22 := k21.alloc (.cells #[] 3)
  have hsW : w.heap.size < W9.drew.heap.size := by have := k21.lt; omega
  have hsX : w.heap.size + 1 < W9.drew.heap.size := k21.lt
  refine wpAnyH_ready (rs := [5]) (by kernel_rfl) (by simp) ?_
  refine AllReadyH.cons rfl (fun K hK => ?_) AllReadyH.nil
  try simp only [Act.put, qA, qB, qC, qD, qE, qF]
  rw [if_pos (by rfl)]
  refine wp_appZ (.tmp 5) (.tmp 7) rfl W9.drew.heap.size _ 0 0 [] rfl (zo_empty W9.drew) (by simp) A w.heap.size m c l rfl hA1 HM.out (by omega) (by simp) ?_
  intro A2 c2 V2 z2 bb
  simp only [Nat.zero_add, List.nil_append] at z2
  have J2 := HS1.step2 bb hsW
  have k23 := k22.below bb hsX
  refine hK.out _ _ J2 (fun _ => ?_)
  clear hK K
  try simp only [Act.put, qA, qB, qC, qD, qE, qF]
  refine wpAnyH_take (i := 6) (v := .agg (pdC a A2 m c2)) rfl (by kernel_rfl) (by kernel_rfl) (by kernel_rfl) (fun _ _ _ h => nomatch h.1) (.inl ⟨by rfl, fun V hV => by unfold pdC; go_simp⟩) J2 ?_
  try simp only [Act.put, qA, qB, qC, qD, qE, qF]
  refine wpAnyH_ready (rs := [7]) (by kernel_rfl) (by simp) ?_
  refine AllReadyH.cons rfl (fun K hK => ?_) AllReadyH.nil
  try simp only [Act.put, qA, qB, qC, qD, qE, qF]
  rw [if_pos (by rfl)]
  refine wp_store_blk 24 (.tmp 2) (.tmp 9) rfl (w.heap.size + 1) (pdC 0 none 0 0) (pdC a A2 m c2) 24 rfl rfl k23 rfl (pd_inf _ _ _ _) (pd_one _ _ _ _) ?_
  intro V3 h3 n3
  have J3 : FS w a A m c V3 := ⟨J2.1.trans (n3.below w.heap.size (by omega) J2.1.size), n3.blk7 J2.2 (by omega)⟩
  have z3 : Zo V3 w.heap.size A2 m c2 l := own_but (z2.down (Nat.le_of_lt hsW)) n3 (fun e => by have := z2.lt _ e.symm; omega)
  refine hK.out _ _ J3 (fun _ => ?_)
  clear hK K
  try simp only [Act.put, qA, qB, qC, qD, qE, qF]
  refine wpAnyH_done (by kernel_rfl) ?_ _
  refine ⟨rfl, ?_⟩
  go_wp2_with fail
  refine bodyPost_ret (results_cell_row rfl _ _ (w.heap.size + 1) 24 (pdC a A2 m c2) (0, 0) _ rfl h3.blk Tryz.underlying24 rfl (pd_inf _ _ _ _)) rfl ?_
  exact ⟨A2, m, c2, rfl, z3, J3.1⟩
set_option maxRecDepth 100000 in
set_option maxHeartbeats 4000000 in
theorem rsame_pid (a : Int) (A : Option Addr) (m c : Nat) (l : List Int) (a2 : Int) (A2 : Option Addr) (m2 c2 : Nat) (l2 : List Int) (w : World) (hA : Ri7 w w.heap.size A l) (hm : m = l.length) (h6 : m ≤ 1000000) (hA2 : Ri7 w w.heap.size A2 l2) (hm2 : m2 = l2.length) :
    Calls Tryz.prog 37 #[pdV a A m c, pdV a2 A2 m2 c2] w fun e w' => e = .returned (.bool ((a == a2) && (l == l2))) ∧ Below w.heap.size w w' := by
  have k1 := (Blk.new w (pdC a A m c) 24).alloc (.cells (pdC a2 A2 m2 c2) 24)
  have k2 := Blk.new_ (w.alloc (.cells (pdC a A m c) 24)) (pdC a2 A2 m2 c2) 24 (n := w.heap.size + 1) (by simp)
  have B0 := ((Below.refl w.heap.size w).alloc (Nat.le_refl _) (.cells (pdC a A m c) 24)).alloc (by simp) (.cells (pdC a2 A2 m2 c2) 24)
  have q0 : _ = some (Value.int .i64 a) := k1.cell 0
  have q1 : _ = some (Value.slice A m c) := k1.cell 1
  have q2 : _ = some (Value.int .i64 a2) := k2.cell 0
  have q3 : _ = some (Value.slice A2 m2 c2) := k2.cell 1
  have HM := Lib.hid hm
  have HM2 := Lib.hid hm2
  clear hm hm2
  unfold pdV pdC at *
  cases h1 : (a == a2)
  · go_enter Tryz.func37, Tryz.ntmps37
    go_wp2_with fail
    go_ret
    exact ⟨rfl, B0⟩
  · rw [Bool.true_and]
    obtain rfl : a = a2 := by simpa using h1
    clear h1
    by_cases hmm : m = m2
    · subst hmm
      go_enter Tryz.func37, Tryz.ntmps37
      go_wp2_with fail
      clear q0 q1 q2 q3
      show Code.wp _ _ _ _ ((w.alloc (.cells #[.int .i64 a, .slice A m c] 24)).alloc (.cells #[.int .i64 a, .slice A2 m c2] 24))
      generalize (w.alloc (.cells #[.int .i64 a, .slice A m c] 24)).alloc (.cells #[.int .i64 a, .slice A2 m c2] 24) = w0 at B0 k1 k2 ⊢
      go_loopw [23] (fun i wr' => ∃ (k : Nat) (wr : World), wr = wr' ∧ k ≤ m ∧ i = .int .i64 k ∧ Hid ((l == l2) = (l.drop k == l2.drop k)) ∧ Below w.heap.size w wr ∧ Blk wr w.heap.size #[.int .i64 a, .slice A m c] 24 ∧ Blk wr (w.heap.size + 1) #[.int .i64 a, .slice A2 m c2] 24) (fun i _ => m - (intOf i).toNat)
      case atStart => exact ⟨0, _, rfl, Nat.zero_le _, rfl, Lib.hid (by simp), B0, k1, k2⟩
      case round =>
        clear B0 k1 k2
        obtain ⟨k, wr, hwr, hk, rfl, hinv, hB, k1, k2⟩ := hrel
        subst hwr
        by_cases hlt : k < m
        · have hlt' : (k : Int) < (m : Int) := by omega
          have hkl : k < l.length := by have := HM.out; omega
          have hkl2 : k < l2.length := by have := HM2.out; omega
          obtain ⟨b, off, rfl, hb, hc⟩ := hA.below hB (Nat.le_refl _) k hkl
          obtain ⟨b2, off2, rfl, hb2, hc2⟩ := hA2.below hB (Nat.le_refl _) k hkl2
          have q1 : wr.cell? ⟨w.heap.size, 1, none⟩ = some (.slice (some ⟨b, off, none⟩) m c) := k1.cell 1
          have q3 : wr.cell? ⟨w.heap.size + 1, 1, none⟩ = some (.slice (some ⟨b2, off2, none⟩) m c2) := k2.cell 1
          have hin := hinv.out
          rw [eq_drop hkl hkl2] at hin
          generalize l.getD k 0 = y at hc hin
          generalize l2.getD k 0 = y2 at hc2 hin
          clear hinv
          cases h3 : (y == y2)
          · rw [h3, Bool.false_and] at hin
            have HI := Lib.hid hin
            clear hin
            go_wp2_with fail
            go_region
            all_goals
              go_wp2_with fail
              go_ret
              exact ⟨by rw [HI.out]; rfl, by first | exact hB.drew | exact hB⟩
          · rw [h3, Bool.true_and] at hin
            have HI := Lib.hid hin
            clear hin
            go_wp2_with fail
            go_region
            all_goals
              go_wp2_with fail
              go_roundw
              case rel => exact ⟨k + 1, _, rfl, by omega, by go_num, HI, by first | exact hB.drew | exact hB, by first | exact k1.drew | exact k1, by first | exact k2.drew | exact k2⟩
              case measure => simp [intOf]; omega
        · obtain rfl : k = m := by omega
          have hi : (l == l2) = true := by
            rw [hinv.out]
            conv => lhs; rw [HM.out, List.drop_length, ← HM.out, HM2.out, List.drop_length]
            rfl
          have HI := Lib.hid hi
          clear hi
          go_wp2_with fail
          go_ret
          exact ⟨by rw [HI.out]; rfl, hB⟩
    · have hi : (l == l2) = false := by
        rw [beq_eq_false_iff_ne]
        intro e
        exact hmm (by rw [HM.out, HM2.out, e])
      have hne : ((m : Int) == (m2 : Int)) = false := by simp; omega
      have HI := Lib.hid hi
      clear hi hmm
      go_enter Tryz.func37, Tryz.ntmps37
      go_wp2_with fail
      go_ret
      exact ⟨by rw [HI.out]; rfl, B0⟩
theorem wpList_app1Z {w : World} {ops : Array Oper} {rest : List Oper} {o : Oper} {a : Act} {Q : Exit → Act → World → Prop} (hgd : o.guard = none) (s x : Operand)
    (ho : o.op = .call { callee := .builtin .append, args := #[s, x], argTypes := #[22, 22] })
    (base : Nat) (A : Option Addr) (m c : Nat) (l : List Int) (hs : a.eval s = .slice A m c) (hown : Zo w base A m c l) (g : Nat) (p : Int) (hx : a.eval x = .slice (some ⟨g, 0, none⟩) 1 1) (hr : w.cell? ⟨g, 0, none⟩ = some (.int .i64 p)) (hsz : m + 1 ≤ 1000000) (hbase : base ≤ w.heap.size)
    (h : ∀ A' c' w', Zo w' base A' (m + 1) c' (l ++ [p]) → Below base w w' → wpList Tryz.prog ops Q rest (a.put o.dst (.slice A' (m + 1) c')) w') :
    wpList Tryz.prog ops Q (o :: rest) a w := by
  refine wpList_plain hgd fun K hK => ?_
  obtain ⟨i, hi, hz, hs1, hb1⟩ := info_parts zint_info
  obtain ⟨v', w', hrun, h1, h2, _, _⟩ := run_append_own_at (P := Tryz.prog) w base 22 o.type 3 i (.int .i64 0) 1 8 Tryz.underlying22 hi hz hs1 hb1 rfl (by decide) _ m _ hown ⟨g, 0, none⟩ 1 1 [.int .i64 p]
    rfl (by
      intro j u hj
      have : j = 0 := by
        rcases j with _ | j
        · rfl
        · simp at hj
      subst this
      simp at hj
      subst hj
      simpa [Addr.add] using hr) (by intro u hu; simp at hu; subst hu; rfl) (by simp only [maxLen]; omega) (by omega) hbase
  obtain ⟨A'', c'', rfl⟩ := own_slice h1
  have hb : Below base w w' := (Below.refl _ _).grown h2 hbase fun k hk => (hown.lt k hk).1
  unfold Oper.wp execOp
  simp only [ho, resolve, invoke, builtin, Sem.run_bind, Sem.run_pure, Result.andThen_ok, List.map_toArray, List.map_cons, List.map_nil, hs, hx, hrun]
  exact hK _ _ (h A'' c'' w' (by unfold Zo; rw [List.map_append]; exact h1) hb)
end Go.Proofs.YtlelhhgggnjndaaGreat
