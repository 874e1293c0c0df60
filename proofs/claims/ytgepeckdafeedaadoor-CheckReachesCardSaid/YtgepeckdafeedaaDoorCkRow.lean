/-
  A row of one-cell values that the call makes itself and writes cell by cell.
-/
import Derived.Test.YtgepeckdafeedaaDoorCkReach
namespace Go.Proofs.YtgepeckdafeedaaDoor
open Go.RowKit

/-- Block g is wholly these n values. -/
def RowV (w : World) (g : Nat) (t : TypeId) (n : Nat) (vs : Nat → Value) : Prop := w.heap[g]? = some (.cells ((List.range n).map vs).toArray t (0, 0))
section
variable {w w' : World} {g n k B : Nat} {t : TypeId} {vs : Nat → Value}
theorem RowV.cell (h : RowV w g t n vs) (hk : k < n) : w.cell? ⟨g, k, none⟩ = some (vs k) := by
  unfold RowV at h
  simp [World.cell?, h, hk]
theorem RowV.frozen (h : RowV w g t n vs) (k : Nat) : w.frozen? ⟨g, k, none⟩ = false := by
  unfold RowV at h
  simp [World.frozen?, h]
theorem RowV.lt (h : RowV w g t n vs) : g < w.heap.size := (Array.getElem?_eq_some_iff.1 h).1
theorem RowV.below (h : RowV w g t n vs) (hb : Below B w w') (hg : g < B) : RowV w' g t n vs := (hb.block g hg).trans h
theorem RowV.alloc (h : RowV w g t n vs) (o : Obj) : RowV (w.alloc o) g t n vs := (Below.heap_alloc w o g h.lt).trans h
theorem RowV.congr (h : RowV w g t n vs) {us : Nat → Value} (he : ∀ k, k < n → vs k = us k) : RowV w g t n us := by
  have : (List.range n).map vs = (List.range n).map us := List.map_congr_left fun k hk => he k (List.mem_range.1 hk)
  unfold RowV at h ⊢
  rwa [this] at h
theorem RowV.set_ (h : RowV w g t n vs) (hk : k < n) (u : Value) : RowV (w.setCell ⟨g, k, none⟩ u) g t n (fun j => if j = k then u else vs j) := by
  unfold RowV at h ⊢
  simp only [World.setCell, Array.getElem?_modify, h]
  simp only [if_true, Option.map_some, Option.some.injEq, Obj.cells.injEq, and_true]
  apply Array.ext'
  show (((List.range n).map vs).toArray.setIfInBounds k u).toList = _
  rw [Array.toList_setIfInBounds]
  refine List.ext_getElem? fun j => ?_
  rw [List.getElem?_set]
  by_cases hj : k = j
  · subst hj
    simp [hk]
  · rw [if_neg hj]
    by_cases hjn : j < n
    · simp [hjn, Ne.symm hj]
    · simp [hjn]
end
theorem made_row (w : World) (z : Value) (hz : z.cells = #[z]) (n : Nat) (t : TypeId) : RowV (w.alloc (.cells (madeCells z.cells n) t)) w.heap.size t n (fun _ => z) := by
  unfold RowV
  rw [heap_alloc_new]
  congr 2
  apply Array.ext'
  apply List.ext_getElem?
  intro i
  rw [hz]
  rcases Nat.lt_or_ge i n with h | h
  · simp [madeCells, h, Nat.mod_one]
  · simp [madeCells, h]
theorem bool_info : (Tryd.prog.info? 4).map (fun i => (i.zero, i.size, i.bytes)) = some (some (.bool false), 1, 1) := by kernel_rfl

/-- 'make([]T, n)'. -/
theorem wpList_make_row {w : World} {ops : Array Oper} {rest : List Oper} {o : Oper} {a : Act} {Q : Exit → Act → World → Prop} {ty e : TypeId} {z : Value} {by_ : Nat} (hu : Tryd.prog.underlying ty = some (.slice e)) (hinf : (Tryd.prog.info? e).map (fun i => (i.zero, i.size, i.bytes)) = some (some z, 1, by_)) (hz : z.cells = #[z])
    (hg : o.guard = none) (s c : Operand) (hop : o.op = Op.makeSlice ty s c) (L C : Int) (n : Nat)
    (hl : a.eval s = .int .i64 L) (hc : a.eval c = .int .i64 C) (hL : L = (n : Int)) (hC : C = (n : Int)) (hn : n ≤ 1000) (hby : by_ ≤ 1000)
    (hK : ∀ w', RowV w' w.heap.size e n (fun _ => z) → Below w.heap.size w w' → wpList Tryd.prog ops Q rest (a.put o.dst (.slice (some ⟨w.heap.size, 0, none⟩) n n)) w') :
    wpList Tryd.prog ops Q (o :: rest) a w := by
  refine wpList_plain hg fun K hK' => ?_
  obtain ⟨i, hi, hz', hs, hb⟩ := info_parts hinf
  have hmul : n * by_ ≤ 1000 * 1000 := Nat.mul_le_mul hn hby
  have h2 : (by_ : Int) * (n : Int) ≤ 1000000 := by
    have : ((n * by_ : Nat) : Int) ≤ 1000000 := by omega
    rw [Int.natCast_mul, Int.mul_comm] at this
    exact this
  have hrun := run_make (P := Tryd.prog) w ty e i z hu hi hz' .i64 .i64 L C (by omega) (by omega) (by rw [hb]; subst hC; omega) (by omega)
  subst hL
  subst hC
  rw [hs, Nat.mul_one, Int.toNat_natCast] at hrun
  unfold Oper.wp
  simp [execOp, hop, hl, hc, hrun, Result.andThen]
  exact hK' _ _ (hK _ (made_row w z hz n e) ((Below.refl _ _).alloc (Nat.le_refl _) _))

theorem wpList_append_num {w : World} {ops : Array Oper} {rest : List Oper} {o : Oper} {a : Act} {Q : Exit → Act → World → Prop} (hgd : o.guard = none) (s x : Operand)
    (ho : o.op = .call { callee := .builtin .append, args := #[s, x], argTypes := #[31, 31] })
    (base : Nat) (A : Option Addr) (n c : Nat) (l : List Nat) (hs : a.eval s = .slice A n c) (hown : w.ownsRow base 3 1 (.slice A n c) n (nv l)) (g p : Nat) (hx : a.eval x = .slice (some ⟨g, 0, none⟩) 1 1) (hr : w.cell? ⟨g, 0, none⟩ = some (.int .i64 (p : Int))) (hsz : n + 1 ≤ 1000000) (hbase : base ≤ w.heap.size)
    (h : ∀ A'' c'' w', w'.ownsRow base 3 1 (.slice A'' (n + 1) c'') (n + 1) (nv (l ++ [p])) → KeepP base w w' → wpList Tryd.prog ops Q rest (a.put o.dst (.slice A'' (n + 1) c'')) w') :
    wpList Tryd.prog ops Q (o :: rest) a w := by
  refine wpList_plain hgd fun K hK => ?_
  obtain ⟨A'', c'', w', hrun, h1, h2, _⟩ := run_append_num o.type base A n c l hown g p hr hsz hbase
  unfold Oper.wp execOp
  simp only [ho, resolve, invoke, builtin, Sem.run_bind, Sem.run_pure, Result.andThen_ok, List.map_toArray, List.map_cons, List.map_nil, hs, hx, hrun]
  exact hK _ _ (h A'' c'' w' h1 h2)
end Go.Proofs.YtgepeckdafeedaaDoor
