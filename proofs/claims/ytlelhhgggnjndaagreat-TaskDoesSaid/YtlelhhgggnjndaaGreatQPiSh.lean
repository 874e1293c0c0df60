/-
  The library's functions on rows of numbers that pids calls, as this program numbers them.
-/
import Derived.Test.YtlelhhgggnjndaaGreatRows
import Derived.WalkKit
import Derived.Lib.Hide
import Derived.Deep.Draws
import Derived.Laws.CopyOwn
import Derived.WalkSmall
import Derived.RangeFuncNested
import Derived.RangeFuncBound
import Derived.RangeFuncCalls
import Derived.RangeFuncLeaves
import Derived.Shelf.Abstract
import Derived.Shelf.RegionOpen
import Derived.OwnWalkIn
import Derived.TacticsInMore
import Derived.LoopNIn
import Derived.LoopIn
import Derived.Maps.AppendAt
import Derived.RegionTactic
import Derived.BigRegion
import Derived.Laws.CopyRow
import Derived.Laws.Rows
import Derived.BigQuiet
import Derived.Deep.MidRow
import Derived.Deep.RegionHeld3
import Derived.RangeFuncWrites
import Derived.RangeFuncKeeps
import Derived.Shelf.Slices.Empties
import Derived.Shelf.Slices.SearchI
import Derived.Shelf.Slices.Delete
import Derived.Shelf.Spec.SlicesInsert
import Derived.Shelf.Spec.SlicesInsertGrow
namespace Go.Proofs.YtlelhhgggnjndaaGreat
open Go.RowKit
def bv (l : List Int) : List Value := l.map (Value.int .u8)
section
variable {w w' : World} {B B' g n : Nat} {A : Option Addr} {l : List Int}
end
end Go.Proofs.YtlelhhgggnjndaaGreat
namespace Go.Proofs.YtlelhhgggnjndaaGreat
open Go.RowKit
theorem own_slice {w : World} {base e size n : Nat} {v : Value} {xs : List Value} (h : w.ownsRow base e size v n xs) : ∃ A c, v = .slice A n c := by
  rcases h.2 with ⟨e, h0⟩ | ⟨g, cap, cur, e, _⟩
  · exact ⟨none, 0, by rw [e, h0]⟩
  · exact ⟨_, _, e⟩
theorem own_head {w : World} {base e size n : Nat} {v : Value} {xs : List Value} (h : w.ownsRow base e size v n xs) (hn : 0 < n) : ∃ g c, v = .slice (some ⟨g, 0, none⟩) n c ∧ g < w.heap.size ∧ ∀ j u, xs[j]? = some u → w.cell? ⟨g, j, none⟩ = some u := by
  rcases h.2 with ⟨_, h0⟩ | ⟨g, cap, cur, e, _, hh, _⟩
  · omega
  · subst e
    refine ⟨g, cap, rfl, ?_, fun j u hj => ?_⟩
    · rcases Nat.lt_or_ge g w.heap.size with h1 | h1
      · exact h1
      · rw [Array.getElem?_eq_none h1] at hh; cases hh
    · have := h.cells (g := g) rfl j u hj
      have ea : (⟨g, 0, none⟩ : Addr).add j = ⟨g, j, none⟩ := by unfold Addr.add; by_cases h0 : j = 0 <;> simp [h0]
      rwa [ea] at this
theorem keeps_below {W W' : World} (h : Below W.heap.size W W') : KeepsOthers W W' :=
  ⟨h.size, fun k _ hk _ => (h.block k (Array.getElem?_eq_some_iff.1 hk).1).trans hk⟩
theorem boxed_below {W W' : World} {B B' : Nat} {t : TypeId} {v : Value} (h : Boxed W B t v) (hb : Below B' W W') (hB : B < B') : Boxed W' B t v := (hb.block B hB).trans h
theorem below_drewN {B : Nat} {w w' : World} (h : Below B w w') (n : Nat) : Below B w (w'.drewN n) := ⟨h.os, h.tape, h.output, h.size, h.block⟩
theorem ownsRow_below {w w' : World} {base e size n B : Nat} {v : Value} {xs : List Value} (h : w.ownsRow base e size v n xs) (hb : Below B w w') (hB : w.heap.size ≤ B) : w'.ownsRow base e size v n xs := by
  refine ⟨h.1, ?_⟩
  rcases h.2 with h0 | ⟨g, cap, cur, hv, hg, hh, r⟩
  · exact .inl h0
  · have hlt : g < w.heap.size := by
      rcases Nat.lt_or_ge g w.heap.size with h1 | h1
      · exact h1
      · rw [Array.getElem?_eq_none h1] at hh; cases hh
    exact .inr ⟨g, cap, cur, hv, hg, (hb.block g (by omega)).trans hh, r⟩
theorem own_base {w : World} {b b' e size n : Nat} {v : Value} {xs : List Value} (h : w.ownsRow b e size v n xs) (hb : b' ≤ b) : w.ownsRow b' e size v n xs := by
  refine ⟨h.1, ?_⟩
  rcases h.2 with h0 | ⟨g, cap, cur, hv, hg, r⟩
  · exact .inl h0
  · exact .inr ⟨g, cap, cur, hv, Nat.le_trans hb hg, r⟩
theorem add_none {x : Addr} {k : Nat} {w : World} {v : Value} (h : w.cell? (x.add k) = some v) (h0 : ∃ v0, w.cell? (x.add 0) = some v0) : x = ⟨x.block, x.off, none⟩ ∧ x.block < w.heap.size ∧ w.cell? ⟨x.block, x.off + k, none⟩ = some v := by
  obtain ⟨b, off, spot⟩ := x
  obtain ⟨v0, h0⟩ := h0
  obtain rfl : spot = none := by simpa [Addr.add] using World.cell?_spot h0
  have e : (⟨b, off, none⟩ : Addr).add k = ⟨b, off + k, none⟩ := by unfold Addr.add; by_cases hk : k = 0 <;> simp [hk]
  have hb := World.block_lt_of_cell? w _ h
  rw [e] at h hb
  exact ⟨rfl, hb, h⟩
theorem own_far {w : World} {base n size : Nat} {e : TypeId} {v : Value} {cs : List Value} (h : w.ownsRow base e size v n cs) {p : Addr} (hp : p.block < base) (u : Value) : (w.setCell p u).ownsRow base e size v n cs := by
  refine ⟨h.1, ?_⟩
  rcases h.2 with h0 | ⟨g, cap, cur, hv, hg, hh, r⟩
  · exact .inl h0
  · exact .inr ⟨g, cap, cur, hv, hg, (Below.heap_setCell w p u g (by omega)).trans hh, r⟩
end Go.Proofs.YtlelhhgggnjndaaGreat
namespace Go.Proofs.YtlelhhgggnjndaaGreat
open Go.RowKit
structure But (g : Nat) (w w' : World) : Prop where
  os : w'.os = w.os
  tape : w'.tape = w.tape
  output : w'.output = w.output
  size : w.heap.size ≤ w'.heap.size
  block : ∀ k, k < w.heap.size → k ≠ g → w'.heap[k]? = w.heap[k]?
section
variable {g : Nat} {w w' w'' : World}
theorem But.refl (g : Nat) (w : World) : But g w w := ⟨rfl, rfl, rfl, Nat.le_refl _, fun _ _ _ => rfl⟩
theorem But.trans (h : But g w w') (k : But g w' w'') : But g w w'' :=
  ⟨k.os.trans h.os, k.tape.trans h.tape, k.output.trans h.output, Nat.le_trans h.size k.size, fun i hi hn => (k.block i (Nat.lt_of_lt_of_le hi h.size) hn).trans (h.block i hi hn)⟩
theorem But.alloc (h : But g w w') (o : Obj) : But g w (w'.alloc o) :=
  h.trans ⟨rfl, rfl, rfl, by simp, fun k hk _ => Below.heap_alloc _ _ _ hk⟩
theorem But.setCell (h : But g w w') {p : Addr} (hp : p.block = g ∨ w.heap.size ≤ p.block) (u : Value) : But g w (w'.setCell p u) := by
  refine ⟨h.os, h.tape, h.output, by simpa [World.setCell] using h.size, fun k hk hn => ?_⟩
  rw [Below.heap_setCell _ _ _ _ (by rcases hp with rfl | hp <;> omega)]
  exact h.block k hk hn
theorem But.below (h : But g w w') (B : Nat) (hB : B ≤ g) (hs : B ≤ w.heap.size) : Below B w w' :=
  ⟨h.os, h.tape, h.output, h.size, fun k hk => h.block k (by omega) (by omega)⟩
theorem But.of_below (h : Below w.heap.size w w') (g : Nat) : But g w w' := ⟨h.os, h.tape, h.output, h.size, fun k hk _ => h.block k hk⟩
end
end Go.Proofs.YtlelhhgggnjndaaGreat
namespace Go.Proofs.YtlelhhgggnjndaaGreat
open Go.RowKit
structure Blk (w : World) (g : Nat) (cs : Array Value) (t : TypeId) : Prop where
  blk : w.heap[g]? = some (.cells cs t (0, 0))
section
variable {w w' : World} {g B : Nat} {cs : Array Value} {t : TypeId}
theorem Blk.lt (h : Blk w g cs t) : g < w.heap.size := by
  rcases Nat.lt_or_ge g w.heap.size with hlt | hge
  · exact hlt
  · have := h.blk; rw [Array.getElem?_eq_none hge] at this; cases this
theorem Blk.cell (h : Blk w g cs t) (k : Nat) : w.cell? ⟨g, k, none⟩ = cs[k]? := by simp [World.cell?, h.blk]
theorem Blk.frozen (h : Blk w g cs t) (k : Nat) : w.frozen? ⟨g, k, none⟩ = false := by simp [World.frozen?, h.blk]
theorem Blk.below (h : Blk w g cs t) (hb : Below B w w') (hg : g < B) : Blk w' g cs t := ⟨(hb.block g hg).trans h.blk⟩
theorem Blk.drew (h : Blk w g cs t) : Blk w.drew g cs t := ⟨h.blk⟩
theorem Blk.drewN (h : Blk w g cs t) (n : Nat) : Blk (w.drewN n) g cs t := ⟨h.blk⟩
theorem Blk.alloc (h : Blk w g cs t) (o : Obj) : Blk (w.alloc o) g cs t := ⟨(Below.heap_alloc w o g h.lt).trans h.blk⟩
theorem Blk.new (w : World) (cs : Array Value) (t : TypeId) : Blk (w.alloc (.cells cs t)) w.heap.size cs t := ⟨heap_alloc_new w _⟩
theorem Blk.new_ (w : World) (cs : Array Value) (t : TypeId) {n : Nat} (hn : w.heap.size = n) : Blk (w.alloc (.cells cs t)) n cs t := hn ▸ Blk.new w cs t
theorem Blk.far (h : Blk w g cs t) {p : Addr} (hp : g ≠ p.block) (u : Value) : Blk (w.setCell p u) g cs t := ⟨(Below.heap_setCell w p u g hp).trans h.blk⟩
theorem Blk.set_ (h : Blk w g cs t) (k : Nat) (u : Value) : Blk (w.setCell ⟨g, k, none⟩ u) g (cs.setIfInBounds k u) t :=
  ⟨by simp [World.setCell, Array.getElem?_modify, h.blk]⟩
end
theorem setRow_blk {w : World} {g : Nat} {cs cs' : Array Value} {t : TypeId} (h : Blk w g cs t) : Blk (w.setRow g cs') g cs' t ∧ But g w (w.setRow g cs') := by
  refine ⟨⟨setRow_heap w g cs cs' t _ h.blk⟩, rfl, rfl, rfl, by simp [World.setRow], fun k _ hk => ?_⟩
  simp [World.setRow, Array.getElem?_modify, Ne.symm hk]
theorem wp_store_blk {P : Program} {o : Oper} {a : Act} {w : World} {K : Act → World → Prop} {Q : Exit → Act → World → Prop} (ty : TypeId) (x y : Operand) (ho : o.op = .store ty x y)
    (g : Nat) (cs cs' : Array Value) (t : TypeId) (hx : a.eval x = .pointer (some ⟨g, 0, none⟩)) (hy : a.eval y = .agg cs') (hb : Blk w g cs t) (hsz : cs.size = cs'.size)
    (hi : (P.info? ty).map (·.size) = some cs'.size) (h1 : cs'.all (·.oneCell') = true) (h : ∀ w', Blk w' g cs' t → But g w w' → K (a.put o.dst undef) w') : o.wp P a w K Q := by
  have hs := run_storeCells_at (P := P) g 0 t cs'.toList 0 cs w hb.blk (by simp; omega) (fun v hv => (Array.all_eq_true_iff_forall_mem.1 h1) v (by simpa using hv))
  have e : (cs.toList.take (0 + 0) ++ cs'.toList ++ cs.toList.drop (0 + 0 + cs'.toList.length)).toArray = cs' := by
    rw [List.drop_eq_nil_of_le (by simp; omega)]
    simp
  rw [e] at hs
  cases hq : P.info? ty with
  | none => simp [hq] at hi
  | some i =>
    have hs' : cs'.size = i.size := by simp [hq] at hi; omega
    have hrun : (storeVar ty ⟨g, 0, none⟩ (.agg cs')).run P w = .ok () (w.setRow g cs') := by simp [storeVar, sizeOf, typeInfo, hq, Value.cells, hs', hs]
    unfold Oper.wp execOp
    simp only [ho, hx, hy, Instr.storeAt, Instr.sureAddr, Sem.run_bind, Sem.run_pure, Result.andThen_ok, hrun]
    have q := setRow_blk (cs' := cs') hb
    exact h _ q.1 q.2
theorem wpList_store_blk {P : Program} {ops : Array Oper} {rest : List Oper} {o : Oper} {a : Act} {w : World} {Q : Exit → Act → World → Prop} (hgd : o.guard = none) (ty : TypeId) (x y : Operand) (ho : o.op = .store ty x y)
    (g : Nat) (cs cs' : Array Value) (t : TypeId) (hx : a.eval x = .pointer (some ⟨g, 0, none⟩)) (hy : a.eval y = .agg cs') (hb : Blk w g cs t) (hsz : cs.size = cs'.size)
    (hi : (P.info? ty).map (·.size) = some cs'.size) (h1 : cs'.all (·.oneCell') = true) (h : ∀ w', Blk w' g cs' t → But g w w' → wpList P ops Q rest (a.put o.dst undef) w') : wpList P ops Q (o :: rest) a w :=
  wpList_plain hgd fun _ hK => wp_store_blk ty x y ho g cs cs' t hx hy hb hsz hi h1 fun w' h2 h3 => hK _ _ (h w' h2 h3)
theorem results_row_tmp {P : Program} {fn : Func} {p u : Tmp} {ty : TypeId} (h : fn.results = #[.cell p ty, .tmp u]) (tmps : Array Value) (w : World) (g : Nat) (t : TypeId) (cs : Array Value) (fr : Nat × Nat) (d : TypeDesc)
    (hp : tmps.getD p undef = .pointer (some ⟨g, 0, none⟩)) (hg : w.heap[g]? = some (.cells cs t fr))
    (hu : P.underlying ty = some d) (hd : (match d with | .struct _ | .array _ _ => true | _ => false) = true) (hi : (P.info? ty).map (·.size) = some cs.size) (v : Value) (hv : tmps.getD u undef = v) :
    (results fn tmps).run P w = .ok (.tuple #[.agg cs, v]) w := by
  subst hv
  have hp' : tmps[p]?.getD undef = .pointer (some ⟨g, 0, none⟩) := by simpa using hp
  simp [results, h, hp', asAddr, run_loadVar_row w g t ty cs fr d hg hu hd hi]
end Go.Proofs.YtlelhhgggnjndaaGreat
namespace Go.Proofs.YtlelhhgggnjndaaGreat
open Go.RowKit
attribute [local go_sem] Oper.semAt_some
set_option linter.unusedVariables false
set_option linter.unusedSimpArgs false
theorem yieldsIf_blk {P : Program} {ops : Array Oper} {S : World → Prop} {o : Oper} {a : Act} (hw : Region.wanted o (yielded ops a.tmps) = true) (ty : TypeId) (x : Operand) (ho : o.op = .load ty x)
    (g : Nat) (hx : a.eval x = .pointer (some ⟨g, 0, none⟩)) (cs : Array Value) (t : TypeId) (d : TypeDesc) (hS : ∀ w, S w → Blk w g cs t)
    (hu : P.underlying ty = some d) (hd : (match d with | .struct _ | .array _ _ => true | _ => false) = true) (hi : (P.info? ty).map (·.size) = some cs.size) : YieldsIf P ops S o (.agg cs) a :=
  .inl ⟨hw, fun w hs => by
    unfold execOp
    simp only [ho, hx, Instr.loadAt, Instr.sureAddr, Sem.run_bind, Sem.run_pure, Result.andThen_ok, run_loadVar_row w g t ty cs (0, 0) d (hS w hs).blk hu hd hi]⟩
theorem wpListIn_load_row {F : Fence} {nF : Nat} {P : Program} {ops : Array Oper} {rest : List Oper} {o : Oper} {a : Act} {w : World} {Q : Exit → Act → World → Prop} (hgd : o.guard = none) (ty : TypeId) (x : Operand) (ho : o.op = .load ty x)
    (g : Nat) (hx : a.eval x = .pointer (some ⟨g, 0, none⟩)) (t : TypeId) (cs : Array Value) (fr : Nat × Nat) (d : TypeDesc) (hg : w.heap[g]? = some (.cells cs t fr))
    (hu : P.underlying ty = some d) (hd : (match d with | .struct _ | .array _ _ => true | _ => false) = true) (hi : (P.info? ty).map (·.size) = some cs.size)
    (h : wpListIn F nF P ops Q rest (a.put o.dst (.agg cs)) w) : wpListIn F nF P ops Q (o :: rest) a w := by
  refine wpListIn_plain hgd fun K hK => ?_
  have hr := run_loadVar_row (P := P) w g t ty cs fr d hg hu hd hi
  unfold Oper.wpIn
  refine ⟨by simp [Oper.about, ho], ?_⟩
  rw [Oper.semAt_plain F _ _ (by rw [ho]; intro c hc'; cases hc')]
  simp only [execOp, ho, hx, Instr.loadAt, Instr.sureAddr, Sem.run_bind, Sem.run_pure, Result.andThen_ok, hr]
  exact hK _ _ h
theorem wpListIn_store_blk {F : Fence} {nF : Nat} {P : Program} {ops : Array Oper} {rest : List Oper} {o : Oper} {a : Act} {w : World} {Q : Exit → Act → World → Prop} (hgd : o.guard = none) (ty : TypeId) (x y : Operand) (ho : o.op = .store ty x y)
    (g : Nat) (cs cs' : Array Value) (t : TypeId) (hx : a.eval x = .pointer (some ⟨g, 0, none⟩)) (hy : a.eval y = .agg cs') (hb : Blk w g cs t) (hsz : cs.size = cs'.size)
    (hi : (P.info? ty).map (·.size) = some cs'.size) (h1 : cs'.all (·.oneCell') = true) (h : ∀ w', Blk w' g cs' t → But g w w' → wpListIn F nF P ops Q rest (a.put o.dst undef) w') : wpListIn F nF P ops Q (o :: rest) a w := by
  refine wpListIn_plain hgd fun K hK => ?_
  have hs := run_storeCells_at (P := P) g 0 t cs'.toList 0 cs w hb.blk (by simp; omega) (fun v hv => (Array.all_eq_true_iff_forall_mem.1 h1) v (by simpa using hv))
  have e : (cs.toList.take (0 + 0) ++ cs'.toList ++ cs.toList.drop (0 + 0 + cs'.toList.length)).toArray = cs' := by
    rw [List.drop_eq_nil_of_le (by simp; omega)]
    simp
  rw [e] at hs
  cases hq : P.info? ty with
  | none => simp [hq] at hi
  | some i =>
    have hs' : cs'.size = i.size := by simp [hq] at hi; omega
    have hrun : (storeVar ty ⟨g, 0, none⟩ (.agg cs')).run P w = .ok () (w.setRow g cs') := by simp [storeVar, sizeOf, typeInfo, hq, Value.cells, hs', hs]
    unfold Oper.wpIn
    refine ⟨by simp [Oper.about, ho], ?_⟩
    rw [Oper.semAt_plain F _ _ (by rw [ho]; intro c hc'; cases hc')]
    simp only [execOp, ho, hx, hy, Instr.storeAt, Instr.sureAddr, Sem.run_bind, Sem.run_pure, Result.andThen_ok, hrun]
    have q := setRow_blk (cs' := cs') hb
    exact hK _ _ (h _ q.1 q.2)
end Go.Proofs.YtlelhhgggnjndaaGreat
namespace Go.Proofs.YtlelhhgggnjndaaGreat
open Go.RowKit Go.Shelf
set_option linter.unusedVariables false
set_option linter.unusedSimpArgs false
def Ri7 (w : World) (B : Nat) (A : Option Addr) (l : List Int) : Prop := ∀ k, k < l.length → ∃ b off, A = some ⟨b, off, none⟩ ∧ b < B ∧ w.cell? ⟨b, off + k, none⟩ = some (.int .i64 (l.getD k 0))
theorem Ri7.below {w w' : World} {B B' : Nat} {A : Option Addr} {l : List Int} (h : Ri7 w B A l) (hb : Below B' w w') (hB : B ≤ B') : Ri7 w' B A l := fun k hk => by
  obtain ⟨b, off, e, h1, c⟩ := h k hk
  exact ⟨b, off, e, h1, (hb.cell (p := ⟨b, off + k, none⟩) (Nat.lt_of_lt_of_le h1 hB)).trans c⟩
theorem Ri7.more {w : World} {B B' : Nat} {A : Option Addr} {l : List Int} (h : Ri7 w B A l) (hB : B ≤ B') : Ri7 w B' A l := fun k hk => by
  obtain ⟨b, off, e, h1, r⟩ := h k hk
  exact ⟨b, off, e, by omega, r⟩
end Go.Proofs.YtlelhhgggnjndaaGreat
namespace Go.Proofs.YtlelhhgggnjndaaGreat
open Go.RowKit Go.Shelf
attribute [local go_sem] Oper.semAt_some
set_option linter.unusedVariables false
set_option linter.unusedSimpArgs false
theorem But.blk7 {w w' : World} {g g' : Nat} {cs : Array Value} {t : TypeId} (h : But g w w') (k : Blk w g' cs t) (hn : g' ≠ g) : Blk w' g' cs t := ⟨(h.block g' k.lt hn).trans k.blk⟩
theorem blk_own {W W' : World} {g : Nat} {cs : Array Value} {t : TypeId} {row : Option Nat} (h : Blk W g cs t) (hg : W.grownBy W' row) (hr : ∀ r, row = some r → ∃ o : Obj, W.heap[r]? = some o ∧ o.isCells = false) : Blk W' g cs t := by
  refine ⟨(hg.block g h.lt (fun e => ?_)).trans h.blk⟩
  obtain ⟨o, ho, hc⟩ := hr g e.symm
  rw [h.blk] at ho
  cases ho
  cases hc
theorem bool_load (w : World) (g : Nat) (b : Bool) (t : TypeId) (h : Blk w g #[.bool b] t) : (loadVar 4 ⟨g, 0, none⟩).run Tryz.prog w = .ok (.bool b) w := by
  have hc := h.cell 0
  simp only [List.getElem?_toArray, List.getElem?_cons_zero] at hc
  have hu := run_underlying Tryz.underlying4
  simp [go_sem, hu, hc]
theorem find_pre {α β : Type} (f : α → β) (bf : β → Bool) {L : List β} {ini : List α} {x : α} {k : Nat} (h : (ini ++ [x]).map f = L.take (k + 1)) (h1 : ∀ y ∈ ini, bf (f y) = false) (h2 : bf (f x) = true) : L.find? bf = some (f x) := by
  have e : L = ini.map f ++ f x :: L.drop (k + 1) := by
    rw [List.map_append] at h
    conv => lhs; rw [← List.take_append_drop (k + 1) L, ← h]
    simp
  rw [e, List.find?_append]
  have : (ini.map f).find? bf = none := List.find?_eq_none.2 fun y hy => by
    obtain ⟨z, hz, rfl⟩ := List.mem_map.1 hy
    rw [h1 z hz]; simp
  rw [this]
  simp [h2]
theorem find_none7 {α β : Type} (f : α → β) (bf : β → Bool) {L : List β} {xs : List α} (h : xs.map f = L) (h1 : ∀ y ∈ xs, bf (f y) = false) : L.find? bf = none := by
  subst h
  refine List.find?_eq_none.2 fun y hy => ?_
  obtain ⟨z, hz, rfl⟩ := List.mem_map.1 hy
  rw [h1 z hz]; simp
theorem rangeF_push (k : Nat) : List.range k ++ [k] = List.range (k + 1) := (List.range_succ).symm
theorem results_cells2i {P : Program} {fn : Func} {p q : Tmp} {ty ty2 : TypeId} (h : fn.results = #[.cell p ty, .cell q ty2]) (tmps : Array Value) (w : World) (g g2 : Nat) (u v : Value)
    (hp : tmps.getD p undef = .pointer (some ⟨g, 0, none⟩)) (hq : tmps.getD q undef = .pointer (some ⟨g2, 0, none⟩)) (h1 : (loadVar ty ⟨g, 0, none⟩).run P w = .ok u w) (h2 : (loadVar ty2 ⟨g2, 0, none⟩).run P w = .ok v w) :
    (results fn tmps).run P w = .ok (.tuple #[u, v]) w := by
  have hp' : tmps[p]?.getD undef = .pointer (some ⟨g, 0, none⟩) := by simpa using hp
  have hq' : tmps[q]?.getD undef = .pointer (some ⟨g2, 0, none⟩) := by simpa using hq
  simp [results, h, hp', hq', asAddr, h1, h2]
theorem int_load (w : World) (g : Nat) (x : Int) (t : TypeId) (h : Blk w g #[.int .i64 x] t) : (loadVar 3 ⟨g, 0, none⟩).run Tryz.prog w = .ok (.int .i64 x) w := by
  have hc := h.cell 0
  simp only [List.getElem?_toArray, List.getElem?_cons_zero] at hc
  have hu := run_underlying Tryz.underlying3
  simp [go_sem, hu, hc]
theorem wpListG_at {P : Program} {ops : Array Oper} {rest : List Oper} {o : Oper} {a : Act} {w : World} {Q : Exit → Act → World → Prop} (hw : Region.wanted o (yielded ops a.tmps) = true)
    (h : ∀ K : Act → World → Prop, (∀ a w, wpList P ops Q rest a w → K a w) → o.wp P a w K Q) : wpList P ops Q (o :: rest) a w :=
  wpList_step fun K hK => by rw [if_pos hw]; exact h K hK
theorem wpListG_load {P : Program} {ops : Array Oper} {rest : List Oper} {o : Oper} {a : Act} {w : World} {Q : Exit → Act → World → Prop} (hw : Region.wanted o (yielded ops a.tmps) = true) (ty : TypeId) (x : Operand) (ho : o.op = .load ty x)
    (g : Nat) (hx : a.eval x = .pointer (some ⟨g, 0, none⟩)) (t : TypeId) (cs : Array Value) (d : TypeDesc) (hg : Blk w g cs t)
    (hu : P.underlying ty = some d) (hd : (match d with | .struct _ | .array _ _ => true | _ => false) = true) (hi : (P.info? ty).map (·.size) = some cs.size)
    (h : wpList P ops Q rest (a.put o.dst (.agg cs)) w) : wpList P ops Q (o :: rest) a w :=
  wpListG_at hw fun _ hK => wp_load_row ty x ho g hx t cs (0, 0) d hg.blk hu hd hi (hK _ _ h)
theorem region_cutP {P : Program} {id : Nat} {ops : Array Oper} {dr : Bool} {Q : Exit → Act → World → Prop} {a : Act} {w : World} (h : (Code.region id ops dr).wp P (fun e a' w' => e = .normal ∧ Q .normal a' w') a w) : (Code.region id ops dr).wp P Q a w :=
  Code.wp_mono (fun e a' w' ⟨he, h⟩ => by subst he; exact h) h
theorem results_cells3 {P : Program} {fn : Func} {p q r : Tmp} {ty ty2 ty3 : TypeId} (h : fn.results = #[.cell p ty, .cell q ty2, .cell r ty3]) (tmps : Array Value) (w : World) (g g2 g3 : Nat) (t : TypeId) (cs : Array Value) (v u : Value) (d : TypeDesc)
    (hp : tmps.getD p undef = .pointer (some ⟨g, 0, none⟩)) (hq : tmps.getD q undef = .pointer (some ⟨g2, 0, none⟩)) (hr : tmps.getD r undef = .pointer (some ⟨g3, 0, none⟩)) (hg : Blk w g cs t) (hu : P.underlying ty = some d) (hd : (match d with | .struct _ | .array _ _ => true | _ => false) = true) (hi : (P.info? ty).map (·.size) = some cs.size)
    (h2 : (loadVar ty2 ⟨g2, 0, none⟩).run P w = .ok v w) (h3 : (loadVar ty3 ⟨g3, 0, none⟩).run P w = .ok u w) :
    (results fn tmps).run P w = .ok (.tuple #[.agg cs, v, u]) w := by
  have hp' : tmps[p]?.getD undef = .pointer (some ⟨g, 0, none⟩) := by simpa using hp
  have hq' : tmps[q]?.getD undef = .pointer (some ⟨g2, 0, none⟩) := by simpa using hq
  have hr' : tmps[r]?.getD undef = .pointer (some ⟨g3, 0, none⟩) := by simpa using hr
  simp [results, h, hp', hq', hr', asAddr, run_loadVar_row w g t ty cs (0, 0) d hg.blk hu hd hi, h2, h3]
end Go.Proofs.YtlelhhgggnjndaaGreat
namespace Go.Proofs.YtlelhhgggnjndaaGreat
open Go.RowKit Go.Shelf
set_option linter.unusedVariables false
set_option linter.unusedSimpArgs false
structure Pn where
  i : Int
  p : Int
  t : List Int
deriving instance DecidableEq for Pn
def pn0 : Pn := ⟨0, 0, []⟩
abbrev Pw := Pn × (Option Addr × Nat)
def pw0 : Pw := (pn0, (none, 0))
def prC (x : Pw) : Array Value := #[.int .i64 x.1.i, .int .i64 x.1.p, .slice x.2.1 x.1.t.length x.2.2]
def prV (x : Pw) : Value := .agg (prC x)
theorem pr_size (x : Pw) : (prC x).size = 3 := rfl
theorem pr_inf (x : Pw) : (Tryz.prog.info? 49).map (·.size) = some (prC x).size := by rw [pr_size]; kernel_rfl
theorem pr_infL (x : Pw) : (Tryz.prog.info? 49).map (·.size) = some (prC x).toList.length := by rw [Array.length_toList]; exact pr_inf x
theorem pr_one (x : Pw) : (prC x).all (·.oneCell') = true := by simp [prC, Value.oneCell']
theorem pr_oneL (x : Pw) : ∀ u ∈ (prC x).toList, u.oneCell' = true := by
  intro u hu
  simp only [prC, List.mem_cons, List.not_mem_nil, or_false] at hu
  rcases hu with rfl | rfl | rfl <;> rfl
structure Tr (w : World) (B : Nat) (x : Pw) : Prop where
  ri : Ri7 w B x.2.1 x.1.t
  le : x.1.t.length ≤ x.2.2
  l : x.1.t.length ≤ 1000000
theorem Tr.below {w w' : World} {B B' : Nat} {x : Pw} (h : Tr w B x) (hb : Below B' w w') (hB : B ≤ B') : Tr w' B x := ⟨h.ri.below hb hB, h.le, h.l⟩
theorem Tr.more {w : World} {B B' : Nat} {x : Pw} (h : Tr w B x) (hB : B ≤ B') : Tr w B' x := ⟨h.ri.more hB, h.le, h.l⟩
theorem range_belowT {w w' : World} {b o B : Nat} {cs : List Value} (h : w.rangeAt b o cs) (hb : Below B w w') (hB : b < B) : w'.rangeAt b o cs := fun j v hv => (hb.cell (p := ⟨b, o + j, none⟩) hB).trans (h j v hv)
structure Ps (w : World) (B : Nat) (A : Option Addr) (L : List Pw) : Prop where
  at_ : ∀ k, k < L.length → ∃ b off, A = some ⟨b, off, none⟩ ∧ b < B ∧ w.rangeAt b (off + k * 3) (prC (L.getD k pw0)).toList
  tr : ∀ x ∈ L, Tr w B x
section
variable {w w' : World} {B B' : Nat} {A : Option Addr} {L : List Pw}
theorem Ps.below (h : Ps w B A L) (hb : Below B' w w') (hB : B ≤ B') : Ps w' B A L := ⟨fun k hk => by
  obtain ⟨b, off, e, h1, h2⟩ := h.at_ k hk
  exact ⟨b, off, e, h1, range_belowT h2 hb (Nat.lt_of_lt_of_le h1 hB)⟩, fun x hx => (h.tr x hx).below hb hB⟩
theorem Ps.more (h : Ps w B A L) (hB : B ≤ B') : Ps w B' A L := ⟨fun k hk => by
  obtain ⟨b, off, e, h1, h2⟩ := h.at_ k hk
  exact ⟨b, off, e, by omega, h2⟩, fun x hx => (h.tr x hx).more hB⟩
theorem Ps.nil : Ps w B A [] := ⟨fun k hk => absurd hk (by simp), fun x hx => by cases hx⟩
theorem Ps.at' (h : Ps w B A L) {k : Nat} (hk : k < L.length) : Tr w B (L.getD k pw0) := by
  have e : L.getD k pw0 = L[k] := by simp [List.getD, hk]
  rw [e]; exact h.tr _ (List.getElem_mem hk)
end
def tkC (a : Int) (U : Option Addr) (um uc : Nat) (A : Option Addr) (m c : Nat) : Array Value := #[.int .i64 a, .slice U um uc, .slice A m c]
def tkV (a : Int) (U : Option Addr) (um uc : Nat) (A : Option Addr) (m c : Nat) : Value := .agg (tkC a U um uc A m c)
theorem tk_inf (a : Int) (U : Option Addr) (um uc : Nat) (A : Option Addr) (m c : Nat) : (Tryz.prog.info? 27).map (·.size) = some (tkC a U um uc A m c).size := by rw [show (tkC a U um uc A m c).size = 3 from rfl]; kernel_rfl
theorem tk_one (a : Int) (U : Option Addr) (um uc : Nat) (A : Option Addr) (m c : Nat) : (tkC a U um uc A m c).all (·.oneCell') = true := by simp [tkC, Value.oneCell']
def thrF : Nat → List Pw → List (Nat × Int)
  | _, [] => []
  | k, x :: L => x.1.t.map (fun t => (k, t)) ++ thrF (k + 1) L
theorem thrF_app : ∀ (L M : List Pw) (k : Nat), thrF k (L ++ M) = thrF k L ++ thrF (k + L.length) M
  | [], M, k => by simp [thrF]
  | x :: L, M, k => by
    show _ ++ thrF (k + 1) (L ++ M) = (_ ++ thrF (k + 1) L) ++ _
    rw [thrF_app L M (k + 1), List.append_assoc, List.length_cons]
    congr 3
    omega
theorem thrF_take {L : List Pw} {k : Nat} (hk : k < L.length) : thrF 0 (L.take (k + 1)) = thrF 0 (L.take k) ++ (L.getD k pw0).1.t.map (fun t => (k, t)) := by
  rw [List.take_succ_eq_append_getElem hk, thrF_app]
  have hl : (L.take k).length = k := by rw [List.length_take]; omega
  have e : L.getD k pw0 = L[k] := by simp [List.getD, hk]
  rw [hl, Nat.zero_add, e]
  simp [thrF]
theorem thrF_pre {L : List Pw} (k : Nat) : thrF 0 (L.take k) <+: thrF 0 L := by
  conv => rhs; rw [← List.take_append_drop k L, thrF_app]
  exact List.prefix_append _ _
theorem thrF_part {L : List Pw} {k j : Nat} (hk : k < L.length) : thrF 0 (L.take k) ++ ((L.getD k pw0).1.t.take j).map (fun t => (k, t)) <+: thrF 0 L := by
  refine List.IsPrefix.trans ?_ (thrF_pre (k + 1))
  rw [thrF_take hk]
  refine (List.prefix_append_right_inj _).2 ?_
  exact (List.take_prefix j _).map _
theorem thrF_lt {L : List Pw} {k j : Nat} (hk : k < L.length) (hj : j < (L.getD k pw0).1.t.length) : (thrF 0 (L.take k) ++ ((L.getD k pw0).1.t.take j).map (fun t => (k, t))).length < (thrF 0 L).length := by
  have h := (thrF_part (L := L) (k := k) (j := j + 1) hk).length_le
  simp only [List.length_append, List.length_map, List.length_take] at h ⊢
  omega
theorem thr_snoc {l : List Int} {j : Nat} (hj : j < l.length) (k : Nat) : (l.take (j + 1)).map (fun t => (k, t)) = (l.take j).map (fun t => (k, t)) ++ [(k, l.getD j 0)] := by
  rw [List.take_succ_eq_append_getElem hj, List.map_append]
  simp [List.getD, hj]
end Go.Proofs.YtlelhhgggnjndaaGreat
namespace Go.Proofs.YtlelhhgggnjndaaGreat
open Go.RowKit Go.Shelf
set_option linter.unusedVariables false
set_option linter.unusedSimpArgs false
def Zo (w : World) (base : Nat) (A : Option Addr) (m c : Nat) (l : List Int) : Prop := w.ownsRow base 3 1 (.slice A m c) m (l.map (Value.int .i64))
theorem zint_info : (Tryz.prog.info? 3).map (fun i => (i.zero, i.size, i.bytes)) = some (some (.int .i64 0), 1, 8) := by kernel_rfl
theorem z_add (b off j : Nat) : (⟨b, off, none⟩ : Addr).add j = ⟨b, off + j, none⟩ := by unfold Addr.add; by_cases h0 : j = 0 <;> simp [h0]
theorem z_get {l : List Int} {j : Nat} {u : Value} (h : (l.map (Value.int .i64))[j]? = some u) : j < l.length ∧ u = .int .i64 (l.getD j 0) := by
  rw [List.getElem?_map] at h
  have hj : j < l.length := by
    rcases Nat.lt_or_ge j l.length with h1 | h1
    · exact h1
    · rw [List.getElem?_eq_none h1] at h; cases h
  refine ⟨hj, ?_⟩
  rw [List.getElem?_eq_getElem hj] at h
  simp at h
  rw [← h]
  simp [List.getD, hj]
theorem z_get' {l : List Int} {j : Nat} (h : j < l.length) : (l.map (Value.int .i64))[j]? = some (.int .i64 (l.getD j 0)) := by
  rw [List.getElem?_map, List.getElem?_eq_getElem h]
  simp [List.getD, h]
section
variable {w w' : World} {base B m c : Nat} {A : Option Addr} {l : List Int}
theorem Zo.len (h : Zo w base A m c l) : m = l.length := by have := h.1; simpa using this.symm
theorem Zo.down (h : Zo w base A m c l) {b : Nat} (hb : b ≤ base) : Zo w b A m c l := own_base h hb
theorem Zo.below (h : Zo w base A m c l) (hb : Below B w w') (hB : w.heap.size ≤ B) : Zo w' base A m c l := ownsRow_below h hb hB
theorem Zo.ri (h : Zo w base A m c l) : Ri7 w w.heap.size A l := fun k hk => by
  have hm := h.len
  obtain ⟨g, c', hv, hg, hcs⟩ := own_head h (by omega)
  injection hv with hA _ _
  exact ⟨g, 0, hA, hg, by rw [Nat.zero_add]; exact hcs _ _ (z_get' hk)⟩
theorem Zo.cap (h : Zo w base A m c l) : m ≤ c := by
  rcases h.2 with ⟨hv, h0⟩ | ⟨g, cap, cur, hv, _, _, hnc, _⟩
  · omega
  · injection hv with _ _ h3
    omega
theorem Zo.form (h : Zo w base A m c l) : (A = none ∧ m = 0 ∧ c = 0 ∧ l = []) ∨ ∃ g, A = some ⟨g, 0, none⟩ ∧ base ≤ g ∧ g < w.heap.size ∧ ∃ cur, w.heap[g]? = some (.cells cur 3 (0, 0)) ∧ m ≤ c ∧ c ≤ maxLen ∧ cur.size = c ∧ cur.toList.take m = l.map (Value.int .i64) := by
  have hl := h.len
  rcases h.2 with ⟨hv, h0⟩ | ⟨g, cap, cur, hv, hg, hh, h1, h2, h3, h4⟩
  · injection hv with e1 e2 e3
    exact .inl ⟨e1, h0, e3, List.eq_nil_of_length_eq_zero (by omega)⟩
  · injection hv with e1 _ e3
    subst e3
    refine .inr ⟨g, e1, hg, (Array.getElem?_eq_some_iff.1 hh).1, cur, hh, h1, h2, by simpa using h3, by simpa using h4⟩
theorem zo_nil (w : World) (base : Nat) : Zo w base none 0 0 [] := World.ownsRow_nil w base _ 1
theorem zo_block {g : Nat} {cur : Array Value} (hb : base ≤ g) (hh : w.heap[g]? = some (.cells cur 3 (0, 0))) (h1 : m ≤ c) (h2 : c ≤ maxLen) (h3 : cur.size = c) (h4 : cur.toList.take m = l.map (Value.int .i64)) (hm : m = l.length) : Zo w base (some ⟨g, 0, none⟩) m c l :=
  ⟨by simp [hm], .inr ⟨g, c, cur, rfl, hb, hh, h1, h2, by simpa using h3, by simpa using h4⟩⟩
end
theorem run_appZ {w : World} (ty : TypeId) (base : Nat) (A : Option Addr) (m c : Nat) (l : List Int) (ho : Zo w base A m c l) (hA : A ≠ none) (A2 : Option Addr) (B m2 c2 : Nat) (l2 : List Int) (h2 : Ri7 w B A2 l2) (hm2 : m2 = l2.length) (hsz : m + m2 ≤ 2000000) (hbase : base ≤ w.heap.size) :
    ∃ A' c' w', (Builtin.append_ #[22, 22] ty #[.slice A m c, .slice A2 m2 c2]).run Tryz.prog w = .ok (.slice A' (m + m2) c') w' ∧ Zo w' base A' (m + m2) c' (l ++ l2) ∧ Below base w w' := by
  obtain ⟨i, hi, hz, hs1, hb1⟩ := info_parts zint_info
  rcases Nat.eq_zero_or_pos m2 with h0 | hp
  · subst h0
    have hl2 : l2 = [] := List.eq_nil_of_length_eq_zero hm2.symm
    subst hl2
    rcases ho.form with ⟨e, _⟩ | ⟨g, rfl, hbg, hlt, cur, hh, h1, h3, h4, h5⟩
    · exact absurd e hA
    · refine ⟨some ⟨g, 0, none⟩, c, w, ?_, by simpa using ho, Below.refl _ _⟩
      cases A2 <;> simp [Builtin.append_, run_underlying Tryz.underlying22, sizeOf, typeInfo, hi, Builtin.lenOf, Builtin.firstCells, storeCells, loadCells, loadCellsFrom, h1]
  · obtain ⟨b, off, rfl, _⟩ := h2 0 (by omega)
    have hcell : ∀ j u, (l2.map (Value.int .i64))[j]? = some u → w.cell? ((⟨b, off, none⟩ : Addr).add j) = some u := by
      intro j u hj
      obtain ⟨hj2, rfl⟩ := z_get hj
      obtain ⟨b', off', e, _, hc⟩ := h2 j hj2
      cases e
      rw [z_add]
      exact hc
    obtain ⟨v', w', hrun, h3, h4, _, _⟩ := run_append_own_at (P := Tryz.prog) w base 22 ty 3 i _ 1 8 Tryz.underlying22 hi hz hs1 hb1 rfl (by decide) _ m _ ho ⟨b, off, none⟩ m2 c2 (l2.map (Value.int .i64)) (by simp [hm2]) hcell
      (by intro u hu; obtain ⟨k, _, rfl⟩ := List.mem_map.1 hu; rfl) (by simp only [maxLen]; omega) (by omega) hbase
    obtain ⟨A'', c'', rfl⟩ := own_slice h3
    exact ⟨A'', c'', w', hrun, by unfold Zo; rw [List.map_append]; exact h3, (Below.refl _ _).grown h4 hbase fun k hk => (ho.lt k hk).1⟩
theorem wpList_appZ {w : World} {ops : Array Oper} {rest : List Oper} {o : Oper} {a : Act} {Q : Exit → Act → World → Prop} (hgd : o.guard = none) (s x : Operand)
    (ho : o.op = .call { callee := .builtin .append, args := #[s, x], argTypes := #[22, 22] })
    (base : Nat) (A : Option Addr) (m c : Nat) (l : List Int) (hs : a.eval s = .slice A m c) (hown : Zo w base A m c l) (hA : A ≠ none) (A2 : Option Addr) (B m2 c2 : Nat) (l2 : List Int) (hx : a.eval x = .slice A2 m2 c2) (h2 : Ri7 w B A2 l2) (hm2 : m2 = l2.length) (hsz : m + m2 ≤ 2000000) (hbase : base ≤ w.heap.size)
    (h : ∀ A' c' w', Zo w' base A' (m + m2) c' (l ++ l2) → Below base w w' → wpList Tryz.prog ops Q rest (a.put o.dst (.slice A' (m + m2) c')) w') :
    wpList Tryz.prog ops Q (o :: rest) a w := by
  refine wpList_plain hgd fun K hK => ?_
  obtain ⟨A', c', w', hrun, h3, h4⟩ := run_appZ o.type base A m c l hown hA A2 B m2 c2 l2 h2 hm2 hsz hbase
  unfold Oper.wp execOp
  simp only [ho, resolve, invoke, builtin, Sem.run_bind, Sem.run_pure, Result.andThen_ok, List.map_toArray, List.map_cons, List.map_nil, hs, hx, hrun]
  exact hK _ _ (h A' c' w' h3 h4)
theorem zo_empty (w : World) : Zo (w.alloc (.cells #[] 3)) w.heap.size (some ⟨w.heap.size, 0, none⟩) 0 0 [] := zo_block (Nat.le_refl _) (heap_alloc_new w _) (Nat.le_refl _) (by simp [maxLen]) rfl rfl rfl
theorem eql_nilZ (A : Option Addr) (m c : Nat) (w : World) : (binOp .eql 22 (.slice A m c) (.slice none 0 0)).run Tryz.prog w = .ok (.bool A.isNone) w := by
  have h : ∀ d, (Op.equalIn (d + 1) 22 (.slice A m c) (.slice none 0 0)).run Tryz.prog w = .ok A.isNone w := fun d => by
    cases A <;> simp [Op.equalIn, run_underlying Tryz.underlying22]
  have h2 : (Op.equal 22 (.slice A m c) (.slice none 0 0)).run Tryz.prog w = .ok A.isNone w := h 9999
  simp [binOp, h2]
set_option maxRecDepth 100000 in
set_option maxHeartbeats 1000000 in
theorem zclone_any (A : Option Addr) (m c : Nat) (l : List Int) (w : World) (hA : Ri7 w w.heap.size A l) (hm : m = l.length) (h6 : m ≤ 1000000) :
    Calls Tryz.prog 57 #[.slice A m c] w fun e w' => ∃ A' c', e = .returned (.slice A' m c') ∧ Zo w' w.heap.size A' m c' l ∧ Below w.heap.size w w' := by
  have hb := (Below.refl w.heap.size w).alloc (Nat.le_refl _) (.cells #[] 3)
  have hA1 := hA.below hb (Nat.le_refl _)
  have he := zo_empty w
  cases A with
  | none =>
    have hl : l = [] := by
      rcases l with _ | ⟨x, l⟩
      · rfl
      · obtain ⟨b, off, e, _⟩ := hA 0 (by simp)
        cases e
    subst hl
    simp at hm
    subst hm
    have en := fun w => eql_nilZ none 0 c w
    simp only [Option.isNone_none] at en
    go_enter Tryz.func57, Tryz.ntmps57
    go_wp2
    go_ret
    exact ⟨none, 0, rfl, zo_nil _ _, Below.refl _ _⟩
  | some a =>
    have en := fun w => eql_nilZ (some a) m c w
    simp only [Option.isNone_some] at en
    have HM := Lib.hid hm
    clear hm
    go_enter Tryz.func57, Tryz.ntmps57
    go_wp2_with (at_builtin; with_reducible refine wpList_appZ rfl (.tmp 5) (.tmp 6) rfl w.heap.size _ 0 0 [] rfl he (by simp) (some a) w.heap.size m c l rfl hA1 HM.out (by omega) (by simp) ?_; intro A2 c2 w2 ho hb2)
    go_ret
    simp only [Nat.zero_add, List.nil_append] at ho
    exact ⟨A2, c2, rfl, ho, hb.trans hb2⟩
end Go.Proofs.YtlelhhgggnjndaaGreat
namespace Go.Proofs.YtlelhhgggnjndaaGreat
open Go.RowKit Go.Shelf
attribute [local go_sem] Oper.semAt_some
set_option linter.unusedVariables false
set_option linter.unusedSimpArgs false
theorem own_but {w w' : World} {g base m c : Nat} {A : Option Addr} {l : List Int} (h : Zo w base A m c l) (n : But g w w') (hg : some g ≠ (Value.slice A m c).ownBlock) : Zo w' base A m c l := by
  refine ⟨h.1, ?_⟩
  rcases h.2 with h0 | ⟨g', cap, cur, hv, hb, hh, r⟩
  · exact .inl h0
  · refine .inr ⟨g', cap, cur, hv, hb, ?_, r⟩
    have hlt := (Array.getElem?_eq_some_iff.1 hh).1
    have hne : g' ≠ g := by
      rintro rfl
      apply hg
      rw [hv]
      rfl
    exact (n.block g' hlt hne).trans hh
theorem zo_own {W W' : World} {base m c : Nat} {A : Option Addr} {l : List Int} {row : Option Nat} (h : Zo W base A m c l) (hg : W.grownBy W' row) (hr : ∀ r, row = some r → ∃ o : Obj, W.heap[r]? = some o ∧ o.isCells = false) : Zo W' base A m c l := by
  refine ⟨h.1, ?_⟩
  rcases h.2 with h0 | ⟨g, cap, cur, hv, hb, hh, r⟩
  · exact .inl h0
  · exact .inr ⟨g, cap, cur, hv, hb, (blk_own ⟨hh⟩ hg hr).blk, r⟩
theorem zo_far {w : World} {base m c : Nat} {A : Option Addr} {l : List Int} (h : Zo w base A m c l) {p : Addr} (hp : p.block < base) (u : Value) : Zo (w.setCell p u) base A m c l := own_far h hp u
theorem wpListIn_load_midT {F : Fence} {nF : Nat} {P : Program} {ops : Array Oper} {rest : List Oper} {o : Oper} {a : Act} {w : World} {Q : Exit → Act → World → Prop} (hgd : o.guard = none) (ty : TypeId) (x : Operand) (ho : o.op = .load ty x)
    (g off : Nat) (hx : a.eval x = .pointer (some ⟨g, off, none⟩)) (cs : List Value) (d : TypeDesc) (hc : w.rangeAt g off cs)
    (hu : P.underlying ty = some d) (hd : d.isRow = true) (hi : (P.info? ty).map (·.size) = some cs.length)
    (h : wpListIn F nF P ops Q rest (a.put o.dst (.agg cs.toArray)) w) : wpListIn F nF P ops Q (o :: rest) a w := by
  refine wpListIn_plain hgd fun K hK => ?_
  have hr := run_loadVar_mid (P := P) w g off ty cs d hc hu hd hi
  unfold Oper.wpIn
  refine ⟨by simp [Oper.about, ho], ?_⟩
  rw [Oper.semAt_plain F _ _ (by rw [ho]; intro c hc'; cases hc')]
  simp only [execOp, ho, hx, Instr.loadAt, Instr.sureAddr, Sem.run_bind, Sem.run_pure, Result.andThen_ok, hr]
  exact hK _ _ h
theorem grown_of_belowT {w w' : World} (h : Below w.heap.size w w') : w.grownBy w' none := ⟨h.os, h.tape, h.output, h.size, fun k hk _ => h.block k hk⟩
theorem keeps_grownT {B : Nat} {W W' : World} {row : Option Nat} (hg : W.grownBy W' row) (hr : ∀ r, row = some r → ∃ cs, W.heap[r]? = some (.cells cs 3 (0, 0))) : KeepsFrom B W W' := ⟨hg.size, fun k o _ hk ho =>
  (hg.block k (Array.getElem?_eq_some_iff.1 hk).1 fun e => by
    obtain ⟨cs', h'⟩ := hr k e.symm
    rw [hk] at h'
    cases h'
    cases ho).trans hk⟩
theorem keeps_butT {B g : Nat} {W W' : World} {cs : Array Value} {t : TypeId} (n : But g W W') (k : Blk W g cs t) : KeepsFrom B W W' := ⟨n.size, fun j o _ hj ho =>
  (n.block j (Array.getElem?_eq_some_iff.1 hj).1 fun e => by
    subst e
    have h := k.blk
    rw [hj] at h
    cases h
    cases ho).trans hj⟩
structure Kt (n₀ g : Nat) (W W' : World) : Prop where
  b : Below n₀ W W'
  g : W'.heap[g]? = W.heap[g]?
theorem Kt.refl (n₀ g : Nat) (W : World) : Kt n₀ g W W := ⟨Below.refl _ _, rfl⟩
theorem Kt.trans {n₀ g : Nat} {A B C : World} (h : Kt n₀ g A B) (k : Kt n₀ g B C) : Kt n₀ g A C := ⟨h.b.trans k.b, k.g.trans h.g⟩
theorem Kt.below {n₀ g : Nat} {A B : World} (h : Below A.heap.size A B) (hn : n₀ ≤ A.heap.size) (hg : g < A.heap.size) : Kt n₀ g A B := ⟨h.mono hn, h.block g hg⟩
structure IdR (g3 : Nat) (l : List Int) (W : World) : Prop where
  r : ∃ G gm gc, Blk W g3 #[.slice G gm gc] 22 ∧ Zo W (g3 + 1) G gm gc l
theorem IdR.own {A B : World} {g3 : Nat} {l : List Int} {row : Option Nat} (h : IdR g3 l A) (hg : A.grownBy B row) (hr : ∀ r, row = some r → ∃ o : Obj, A.heap[r]? = some o ∧ o.isCells = false) : IdR g3 l B := by
  obtain ⟨G, gm, gc, k, z⟩ := h.r
  exact ⟨G, gm, gc, blk_own k hg hr, zo_own z hg hr⟩
theorem IdR.below {A B : World} {g3 : Nat} {l : List Int} (h : IdR g3 l A) (hg : Below A.heap.size A B) : IdR g3 l B := by
  obtain ⟨G, gm, gc, k, z⟩ := h.r
  exact ⟨G, gm, gc, k.below hg k.lt, z.below hg (Nat.le_refl _)⟩
theorem results_tmp1 {P : Program} {fn : Func} {p : Tmp} (h : fn.results = #[.tmp p]) (tmps : Array Value) (w : World) : (results fn tmps).run P w = .ok (tmps.getD p undef) w := by
  simp [results, h]
end Go.Proofs.YtlelhhgggnjndaaGreat
namespace Go.Proofs.YtlelhhgggnjndaaGreat
open Go.RowKit Go.Shelf
attribute [local go_sem] Oper.semAt_some
set_option linter.unusedVariables false
set_option linter.unusedSimpArgs false
theorem threads_any (a : Int) (U : Option Addr) (um uc : Nat) (A : Option Addr) (m c : Nat) (w : World) :
    Calls Tryz.prog 53 #[tkV a U um uc A m c] w fun e w' => e = .returned (.func (.func 86) #[] #[.pointer (some ⟨w.heap.size, 0, none⟩)]) ∧ w' = w.alloc (.cells (tkC a U um uc A m c) 27) := by
  unfold tkV tkC
  go_enter Tryz.func53, Tryz.ntmps53
  go_wp2
  go_ret
  exact ⟨rfl, rfl⟩
set_option maxRecDepth 100000 in
set_option maxHeartbeats 4000000 in
theorem threads_seq (n : Nat) (hn : 1 ≤ n) (n₀ g m c : Nat) (a : Int) (Ua : Option Addr) (um uc : Nat) (A : Option Addr) (L : List Pw) (w : World) (hP : Ps w n₀ A L) (hg : Blk w g (tkC a Ua um uc A m c) 27) (hm : m = L.length) (h6 : m ≤ 1000000) (hgn : n₀ ≤ g) (hgw : g < w.heap.size) :
    SeqStopsK Fence.wide n Tryz.prog 86 #[.pointer (some ⟨g, 0, none⟩)] (fun x : Nat × Int => #[.int .i64 x.1, .int .i64 x.2]) (Kt n₀ g) (fun xs => xs = thrF 0 L) (fun pre => pre <+: thrF 0 L) (thrF 0 L).length w := by
  intro lp J Jx W hW hJ hJx hY h0
  have HM := Lib.hid hm
  clear hm
  have gW : Blk W g (tkC a Ua um uc A m c) 27 := hg.below hW hgw
  have PW := hP.below hW (by omega)
  have hgW : g < W.heap.size := gW.lt
  have hc0 : W.cell? ⟨g, 2, none⟩ = some (.slice A m c) := gW.cell 2
  refine callsIn_of_wp Tryz.func86 rfl trivial ?_ rfl
  simp only [Tryz.ntmps86, List.size_toArray, List.length_cons, List.length_nil, Nat.reduceAdd, Nat.reduceSub, Array.replicate_succ, Array.replicate_zero, List.push_toArray, List.append_toArray, List.nil_append, List.cons_append]
  gi_wp2
  clear hc0
  gi_loopw [10] (fun i wr => ∃ (k : Nat) (pre : List (Nat × Int)), k ≤ m ∧ i = .int .i64 k ∧ pre = thrF 0 (L.take k) ∧ J pre wr ∧ Kt n₀ g W wr) (fun i _ => m - (intOf i).toNat)
  case atStart => exact ⟨0, [], Nat.zero_le _, rfl, rfl, h0, Kt.refl _ _ _⟩
  case round =>
    obtain ⟨k, pre, hk, rfl, hpm, hJs, hB⟩ := hrel
    have HP := Lib.hid hpm
    clear hpm
    by_cases hlt : k < m
    · have hlt' : (k : Int) < m := by omega
      have hkl : k < L.length := by have := HM.out; omega
      obtain ⟨b, off, rfl, hb, hc⟩ := PW.at_ k hkl
      have hx := PW.at' hkl
      have hcr := range_belowT hc hB.b hb
      have hgr : g < wr.heap.size := Nat.lt_of_lt_of_le hgW hB.b.size
      have HTK := Lib.hid (thrF_take hkl)
      have HLT := Lib.hid (fun j (hj : j < (L.getD k pw0).1.t.length) => thrF_lt hkl hj)
      have HPA := Lib.hid (fun j => thrF_part (L := L) (k := k) (j := j) hkl)
      generalize L.getD k pw0 = x at hcr hx HTK HLT HPA hc
      have hne2 : (prC x).size = 3 := pr_size x
      have hxl := hx.l
      gi_wp2_with (first
        | (refine wpListIn_load_midT rfl 49 (.tmp 13) rfl b (off + k * 3) rfl (prC x).toList _ hcr Tryz.underlying49 rfl (pr_infL x) ?_)
        | (refine wpListIn_store_blk rfl 49 (.tmp 4) (.tmp 14) rfl wr.heap.size (prC pw0) (prC x) 49 rfl rfl (Blk.new _ _ _) rfl (pr_inf x) (pr_one x) ?_
           intro w1 hw1 hn1
           have b1 : Below wr.heap.size wr w1 := ((Below.refl _ wr).alloc (Nat.le_refl _) _).trans (hn1.below _ (Nat.le_refl _) (by simp))
           have hJ1 := hJ pre wr w1 none hJs (grown_of_belowT b1) (fun r e => by cases e)
           have hB1 : Kt n₀ g W w1 := hB.trans (Kt.below b1 (by omega) hgr)
           have q2 : w1.cell? ⟨wr.heap.size, 2, none⟩ = some (.slice x.2.1 x.1.t.length x.2.2) := hw1.cell 2
           clear hJs hn1))
      have hrx := hx.ri
      generalize hG : x.2.1 = XA at hrx
      obtain ⟨tm, htm⟩ : ∃ tm, tm = x.1.t.length := ⟨_, rfl⟩
      rw [← htm] at hxl
      have HTM := Lib.hid htm
      simp only [hG, ← htm]
      clear htm q2 hw1 b1 hB hc hcr
      gi_loopw [18] (fun i wq => ∃ (j : Nat) (pre' : List (Nat × Int)), j ≤ tm ∧ i = .int .i64 j ∧ pre' = pre ++ (x.1.t.take j).map (fun t => (k, t)) ∧ J pre' wq ∧ Kt n₀ g W wq) (fun i _ => tm - (intOf i).toNat)
      case atStart => exact ⟨0, pre, Nat.zero_le _, rfl, by simp, hJ1, hB1⟩
      case round =>
        obtain ⟨j, pre', hj, rfl, hpm', hJs', hB'⟩ := hrel
        have HP' := Lib.hid hpm'
        clear hpm'
        obtain ⟨wq, rfl⟩ : ∃ wq : World, wq = wr := ⟨_, rfl⟩
        by_cases hlj : j < tm
        · have hlj' : (j : Int) < tm := by omega
          have hjl : j < x.1.t.length := by have := HTM.out; omega
          obtain ⟨b', off', rfl, hbb, hc'⟩ := hrx.below hB'.b (Nat.le_refl _) j hjl
          have hlen : pre'.length < (thrF 0 L).length := by rw [HP'.out, HP.out]; exact HLT.out j hjl
          have HSN := Lib.hid (thr_snoc hjl k)
          generalize x.1.t.getD j 0 = t at hc' HSN
          obtain ⟨fn, tmps, assign, body, hy, hRd⟩ := hY pre' (k, t) wq hJs' hlen
          gi_wp2
          have hmap : pre' ++ [(k, t)] = pre ++ (x.1.t.take (j + 1)).map (fun t => (k, t)) := by rw [HSN.out, HP'.out, List.append_assoc]
          have HMP := Lib.hid hmap
          clear hmap
          refine hRd.mono ?_
          rintro e W3 h3
          rcases h3 with ⟨rfl, hJ3, hb3⟩ | ⟨rfl, hJx3⟩
          · gi_wp2
            exact ⟨⟨j + 1, pre' ++ [(k, t)], by omega, by go_num, HMP.out, hJ3, hB'.trans hb3⟩, by simp [intOf]; omega⟩
          · gi_wp2
            refine bodyPost_ret (results_none rfl _ _ _) rfl ?_
            exact ⟨⟨_, rfl⟩, .inr ⟨_, by rw [HMP.out, HP.out]; exact HPA.out (j + 1), hJx3⟩⟩
        · obtain rfl : j = tm := by omega
          have hle : x.1.t.length ≤ j := by have := HTM.out; omega
          have HLE := Lib.hid hle
          clear hle
          gi_wp2
          refine ⟨⟨k + 1, pre', by omega, by go_num, ?_, hJs', hB'⟩, by simp [intOf]; omega⟩
          rw [HP'.out, HP.out, HTK.out, List.take_of_length_le HLE.out]
    · obtain rfl : k = m := by omega
      gi_wp2
      go_end0
      refine ⟨⟨_, rfl⟩, .inl ⟨pre, ?_, hJs⟩⟩
      rw [HP.out, HM.out, List.take_length]
end Go.Proofs.YtlelhhgggnjndaaGreat
namespace Go.Proofs.YtlelhhgggnjndaaGreat
open Go.RowKit Go.Shelf
attribute [local go_sem] Oper.semAt_some
set_option linter.unusedVariables false
set_option linter.unusedSimpArgs false
set_option maxRecDepth 100000 in
set_option maxHeartbeats 4000000 in
theorem count_in (a : Int) (Ua : Option Addr) (um uc : Nat) (A : Option Addr) (m c : Nat) (L : List Pw) (w : World) (hP : Ps w w.heap.size A L) (hm : m = L.length) (h6 : m ≤ 1000000) (hN : (thrF 0 L).length ≤ 1000000000) :
    CallsIn Fence.wide 6 Tryz.prog 82 #[tkV a Ua um uc A m c] w fun e w' => e = .returned (.int .i64 (thrF 0 L).length) ∧ Below w.heap.size w w' := by
  have k1 := (Blk.new w (tkC a Ua um uc A m c) 27).alloc (.cells #[.int .i64 0] 3)
  have k3 := Blk.new_ (w.alloc (.cells (tkC a Ua um uc A m c) 27)) #[.int .i64 0] 3 (n := w.heap.size + 1) (by simp)
  have B0 := ((Below.refl w.heap.size w).alloc (Nat.le_refl _) (.cells (tkC a Ua um uc A m c) 27)).alloc (by simp) (.cells #[.int .i64 0] 3)
  have TH := fun V => callsIn_wide (n := 5) |>.2 (threads_any a Ua um uc A m c V)
  have HM := Lib.hid hm
  clear hm
  unfold tkV at TH ⊢
  have HTH := Lib.hid TH
  clear TH
  refine callsIn_of_wp_marks Tryz.func82 rfl trivial ?_ rfl
  simp only [Tryz.ntmps82, List.size_toArray, List.length_cons, List.length_nil, Nat.reduceAdd, Nat.reduceSub, Array.replicate_succ, Array.replicate_zero, List.push_toArray, List.append_toArray, List.nil_append, List.cons_append]
  gi_wp2_with (refine wpListIn_load_row rfl 27 (.tmp 1) rfl w.heap.size rfl 27 (tkC a Ua um uc A m c) (0, 0) _ k1.blk Tryz.underlying27 rfl (tk_inf a Ua um uc A m c) ?_)
  refine ⟨trivial, (HTH.out _).mono ?_⟩
  rintro e w1 ⟨rfl, rfl⟩
  gi_wp2
  have hgt : w.heap.size + 1 + 1 = ((w.alloc (.cells (tkC a Ua um uc A m c) 27)).alloc (.cells #[.int .i64 0] 3)).heap.size := by simp
  have kT := Blk.new_ ((w.alloc (.cells (tkC a Ua um uc A m c) 27)).alloc (.cells #[.int .i64 0] 3)) (tkC a Ua um uc A m c) 27 (n := w.heap.size + 1 + 1) (by simp)
  have k3' := k3.alloc (.cells (tkC a Ua um uc A m c) 27)
  have B1 := B0.alloc (by simp; omega) (.cells (tkC a Ua um uc A m c) 27)
  have hs : (((w.alloc (.cells (tkC a Ua um uc A m c) 27)).alloc (.cells #[.int .i64 0] 3)).alloc (.cells (tkC a Ua um uc A m c) 27)).heap.size = w.heap.size + 3 := by simp
  generalize ((w.alloc (.cells (tkC a Ua um uc A m c) 27)).alloc (.cells #[.int .i64 0] 3)).alloc (.cells (tkC a Ua um uc A m c) 27) = w2 at kT k3' B1 hs ⊢
  clear k1 k3 B0 HTH hgt
  have hseq := threads_seq 5 (by omega) w.heap.size (w.heap.size + 1 + 1) m c a Ua um uc A L w2 (hP.below B1 (Nat.le_refl _)) kT HM.out h6 (by omega) (by omega)
  refine wpIn_rangeFunc_ownH rfl (by omega) (gf := 86) (lb := #[.pointer (some ⟨w.heap.size + 1 + 1, 0, none⟩)]) rfl trivial (enters_of Tryz.func86 (by kernel_rfl) rfl) hseq (fun h k => h.trans k) (fun W l o o' hl h hc hw => ⟨(belowK_b (w := w2) (Nat.le_refl _) W l o o' hl h hc hw).mono (by omega), World.putObj_heap_other (by omega)⟩) (Below.refl _ _) (fun _ => rfl)
    (fun pre W => Blk W (w.heap.size + 1) #[.int .i64 (pre.length : Nat)] 3 ∧ (Below w.heap.size w W ∧ w2.heap.size ≤ W.heap.size)) (fun _ _ _ => False) ?hI ?hIx ⟨k3', B1, Nat.le_refl _⟩
    (fun x a' W => a' = { tmps := #[.agg (tkC a Ua um uc A m c), .pointer (some ⟨w.heap.size, 0, none⟩), .int .i64 0, .pointer (some ⟨w.heap.size + 1, 0, none⟩), .agg (tkC a Ua um uc A m c), .func (.func 86) #[] #[.pointer (some ⟨w.heap.size + 1 + 1, 0, none⟩)], .int .i64 x.1, .int .i64 x.2, undef, undef, undef], defers := [] })
    ?hAx ?assign ?body ?done ?stop
  case hI => exact OwnFrom.and (Own.from (I := fun (pre : List (Nat × Int)) W => Blk W (w.heap.size + 1) #[.int .i64 (pre.length : Nat)] 3) (fun s A B row hs hg hr => blk_own hs hg hr) _) (OwnFrom.and (ownFrom_below (by omega) B1.size) (Own.from (fun s A B row hs hg hr => Nat.le_trans hs hg.size) _))
  case hIx => exact fun cd => Own.from (fun s A B row hs hg hr => hs) _
  case hAx => exact fun x a' => Own.from (fun s A B row hs hg hr => hs) _
  case assign =>
    rintro l pre x W K ⟨hr, hB, hs2⟩ hK
    gi_wp2
    exact hK _ _ (KeepsFrom.refl _ _) (Kt.refl _ _ _) ⟨hr, hB, hs2⟩ (by simp)
  case body =>
    rintro l pre x a' W hwl _ ⟨hr, hB, hs2⟩ rfl hpl
    have q3 : W.cell? ⟨w.heap.size + 1, 0, none⟩ = some (.int .i64 (pre.length : Nat)) := hr.cell 0
    have f3 := hr.frozen 0
    have hpl6 : pre.length ≤ 1000000000 := by omega
    gi_wp2
    have bS : But (w.heap.size + 1) W (W.setCell ⟨w.heap.size + 1, 0, none⟩ (.int .i64 ((pre.length : Nat) + 1))) := (But.refl _ W).setCell (p := ⟨w.heap.size + 1, 0, none⟩) (.inl rfl) _
    have h2 := hr.set_ 0 (.int .i64 ((pre.length : Nat) + 1))
    have hl : ((pre ++ [x]).length : Nat) = pre.length + 1 := by simp
    refine ⟨keeps_butT bS hr, ⟨bS.below _ (by omega) hB.size, bS.block _ (by omega) (by omega)⟩, ?_, hB.trans (bS.below _ (by omega) hB.size), Nat.le_trans hs2 bS.size⟩
    rw [hl]
    exact h2
  case done =>
    rintro D xs W hD hS ⟨hr, hB, hs2⟩ hK
    have q3 : W.cell? ⟨w.heap.size + 1, 0, none⟩ = some (.int .i64 (xs.length : Nat)) := hr.cell 0
    gi_wp2
    refine ⟨by simp, .inl ⟨_, _, rfl, run_takeDeferred hK, ?_⟩⟩
    refine ⟨_, results_tmp rfl _ _ _, ?_⟩
    exact ⟨rfl, hB.trans (belowK_b (w := w) (Nat.le_refl _) W D _ _ (by omega) hK rfl rfl)⟩
  case stop =>
    rintro D cd pre W hD _ hF
    exact hF.elim
theorem count_any (a : Int) (Ua : Option Addr) (um uc : Nat) (A : Option Addr) (m c : Nat) (L : List Pw) (w : World) (hP : Ps w w.heap.size A L) (hm : m = L.length) (h6 : m ≤ 1000000) (hN : (thrF 0 L).length ≤ 1000000000) :
    Calls Tryz.prog 82 #[tkV a Ua um uc A m c] w fun e w' => e = .returned (.int .i64 (thrF 0 L).length) ∧ Below w.heap.size w w' := callsIn_wide.1 (count_in a Ua um uc A m c L w hP hm h6 hN)
end Go.Proofs.YtlelhhgggnjndaaGreat
namespace Go.Proofs.YtlelhhgggnjndaaGreat
open Go.RowKit Go.Shelf
attribute [local go_sem] Oper.semAt_some
set_option linter.unusedVariables false
set_option linter.unusedSimpArgs false
def homeF (L : List Pw) (tid : Int) : Nat × Bool := match (thrF 0 L).find? (fun x => x.2 == tid) with | some x => (x.1, true) | none => (0, false)
theorem homeF_stop {L : List Pw} {tid : Int} {pre ini : List (Nat × Int)} {x : Nat × Int} (hp : pre <+: thrF 0 L) (e : pre = ini ++ [x]) (h1 : ∀ y ∈ ini, (y.2 == tid) = false) (h2 : (x.2 == tid) = true) : homeF L tid = (x.1, true) := by
  obtain ⟨r, hr⟩ := hp
  unfold homeF
  have : (thrF 0 L).find? (fun x => x.2 == tid) = some x := by
    rw [← hr, e, List.append_assoc, List.find?_append, List.find?_eq_none.2 (fun y hy => by simpa using h1 y hy)]
    simp [h2]
  rw [this]
theorem homeF_none {L : List Pw} {tid : Int} (h1 : ∀ y ∈ thrF 0 L, (y.2 == tid) = false) : homeF L tid = (0, false) := by
  unfold homeF
  rw [List.find?_eq_none.2 (fun y hy => by simpa using h1 y hy)]
def hoI (w w2 : World) (tid : Int) (pre : List (Nat × Int)) (W : World) : Prop := (∀ y ∈ pre, (y.2 == tid) = false) ∧ Below w2.heap.size w2 W
def hoX (w : World) (tid : Int) (cd : Code) (pre : List (Nat × Int)) (W : World) : Prop :=
  (cd = .ret ∧ ∃ ini x, pre = ini ++ [x] ∧ (∀ y ∈ ini, (y.2 == tid) = false) ∧ (x.2 == tid) = true ∧ Blk W (w.heap.size + 1 + 1) #[.int .i64 (x.1 : Nat)] 3 ∧ Blk W (w.heap.size + 1 + 1 + 1) #[.bool true] 4) ∧ Below w.heap.size w W
set_option maxRecDepth 100000 in
set_option maxHeartbeats 4000000 in
theorem home_in (a : Int) (Ua : Option Addr) (um uc : Nat) (A : Option Addr) (m c : Nat) (L : List Pw) (tid : Int) (w : World) (hP : Ps w w.heap.size A L) (hm : m = L.length) (h6 : m ≤ 1000000) :
    CallsIn Fence.wide 6 Tryz.prog 56 #[tkV a Ua um uc A m c, .int .i64 tid] w fun e w' => e = .returned (.tuple #[.int .i64 (homeF L tid).1, .bool (homeF L tid).2]) ∧ Below w.heap.size w w' := by
  obtain ⟨wa, hwa⟩ : ∃ wa, wa = w.alloc (.cells (tkC a Ua um uc A m c) 27) := ⟨_, rfl⟩
  obtain ⟨wb, hwb⟩ : ∃ wb, wb = wa.alloc (.cells #[.int .i64 tid] 3) := ⟨_, rfl⟩
  obtain ⟨wc, hwc⟩ : ∃ wc, wc = wb.alloc (.cells #[.int .i64 0] 3) := ⟨_, rfl⟩
  obtain ⟨wd, hwd⟩ : ∃ wd, wd = wc.alloc (.cells #[.bool false] 4) := ⟨_, rfl⟩
  have sa : wa.heap.size = w.heap.size + 1 := by rw [hwa]; simp
  have sb : wb.heap.size = w.heap.size + 1 + 1 := by rw [hwb]; simp [sa]
  have sc : wc.heap.size = w.heap.size + 1 + 1 + 1 := by rw [hwc]; simp [sb]
  have sd : wd.heap.size = w.heap.size + 1 + 1 + 1 + 1 := by rw [hwd]; simp [sc]
  have k1 : Blk wd w.heap.size (tkC a Ua um uc A m c) 27 := by rw [hwd, hwc, hwb, hwa]; exact (((Blk.new w _ _).alloc _).alloc _).alloc _
  have k2 : Blk wd (w.heap.size + 1) #[.int .i64 tid] 3 := by rw [hwd, hwc, hwb]; exact ((Blk.new_ wa _ _ sa).alloc _).alloc _
  have k3 : Blk wd (w.heap.size + 1 + 1) #[.int .i64 0] 3 := by rw [hwd, hwc]; exact (Blk.new_ wb _ _ sb).alloc _
  have k4 : Blk wd (w.heap.size + 1 + 1 + 1) #[.bool false] 4 := by rw [hwd]; exact Blk.new_ wc _ _ sc
  have B0 : Below w.heap.size w wd := by rw [hwd, hwc, hwb, hwa]; exact ((((Below.refl _ w).alloc (Nat.le_refl _) _).alloc (by simp) _).alloc (by simp; omega) _).alloc (by simp; omega) _
  have TH := fun V => callsIn_wide (n := 5) |>.2 (threads_any a Ua um uc A m c V)
  have HM := Lib.hid hm
  clear hm
  unfold tkV at TH ⊢
  have HTH := Lib.hid TH
  clear TH
  rw [hwd, hwc, hwb, hwa] at k1
  refine callsIn_of_wp_marks Tryz.func56 rfl trivial ?_ rfl
  simp only [Tryz.ntmps56, List.size_toArray, List.length_cons, List.length_nil, Nat.reduceAdd, Nat.reduceSub, Array.replicate_succ, Array.replicate_zero, List.push_toArray, List.append_toArray, List.nil_append, List.cons_append]
  gi_wp2_with (refine wpListIn_load_row rfl 27 (.tmp 2) rfl w.heap.size rfl 27 (tkC a Ua um uc A m c) (0, 0) _ k1.blk Tryz.underlying27 rfl (tk_inf a Ua um uc A m c) ?_)
  refine ⟨trivial, (HTH.out _).mono ?_⟩
  rintro e w1 ⟨rfl, hw1⟩
  rw [← hwa, ← hwb, ← hwc, ← hwd] at hw1 k1
  rw [← hwa, ← hwb, ← hwc, ← hwd]
  have kT : Blk w1 (w.heap.size + 1 + 1 + 1 + 1) (tkC a Ua um uc A m c) 27 := by rw [hw1]; exact Blk.new_ wd _ _ sd
  have bb : Below wd.heap.size wd w1 := by rw [hw1]; exact (Below.refl _ _).alloc (Nat.le_refl _) _
  have s1 : w1.heap.size = w.heap.size + 1 + 1 + 1 + 1 + 1 := by rw [hw1]; simp [sd]
  have k21 := k2.below bb k2.lt
  have k31 := k3.below bb k3.lt
  have k41 := k4.below bb k4.lt
  have B1 := B0.trans (bb.mono B0.size)
  clear k1 k2 k3 k4 B0 hw1 HTH hwa hwb hwc hwd sa sb sc bb
  rw [sd]
  clear sd
  gi_wp2
  have hseq := threads_seq 5 (by omega) w.heap.size (w.heap.size + 1 + 1 + 1 + 1) m c a Ua um uc A L w1 (hP.below B1 (Nat.le_refl _)) kT HM.out h6 (by omega) (by omega)
  refine wpIn_rangeFunc_ownG rfl (by omega) (gf := 86) (lb := #[.pointer (some ⟨w.heap.size + 1 + 1 + 1 + 1, 0, none⟩)]) rfl trivial (enters_of Tryz.func86 (by kernel_rfl) rfl) hseq (fun h k => h.trans k) (fun W l o o' hl h hc hw => ⟨(belowK_b (w := w1) (Nat.le_refl _) W l o o' hl h hc hw).mono (by omega), World.putObj_heap_other (by omega)⟩) (Below.refl _ _) (fun _ => rfl)
    (hoI w w1 tid) (hoX w tid) ?hI ?hIx ⟨by simp, Below.refl _ _⟩
    (fun x => { tmps := #[.agg (tkC a Ua um uc A m c), .int .i64 tid, .pointer (some ⟨w.heap.size, 0, none⟩), .pointer (some ⟨w.heap.size + 1, 0, none⟩), .pointer (some ⟨w.heap.size + 1 + 1, 0, none⟩), .pointer (some ⟨w.heap.size + 1 + 1 + 1, 0, none⟩), .int .i64 x.1, .int .i64 x.2, .agg (tkC a Ua um uc A m c), .func (.func 86) #[] #[.pointer (some ⟨w.heap.size + 1 + 1 + 1 + 1, 0, none⟩)], .int .i64 x.1, .int .i64 x.2, undef, undef, undef, undef], defers := [] })
    ?assign ?body ?done ?stop
  case hI => exact OwnFrom.and (Own.from (fun s A B row hs hg hr => hs) _) (ownFrom_below (Nat.le_refl _) (Nat.le_refl _))
  case hIx => exact fun cd => OwnFrom.and (Own.from (fun s A B row hs hg hr => by obtain ⟨hc, ini, x, e1, e2, e3, e4, e5⟩ := hs; exact ⟨hc, ini, x, e1, e2, e3, blk_own e4 hg hr, blk_own e5 hg hr⟩) _) (ownFrom_below (Nat.le_refl _) B1.size)
  case assign =>
    intro l x W K hK
    gi_wp2
    exact hK
  case body =>
    rintro lp pre x W ⟨hp, hW2⟩ _
    have c2 : W.cell? ⟨w.heap.size + 1, 0, none⟩ = some (.int .i64 tid) := (k21.below hW2 k21.lt).cell 0
    have c3 := k31.below hW2 k31.lt
    have c4 := k41.below hW2 k41.lt
    have q3 : W.cell? ⟨w.heap.size + 1 + 1, 0, none⟩ = some (.int .i64 0) := c3.cell 0
    have q4 : W.cell? ⟨w.heap.size + 1 + 1 + 1, 0, none⟩ = some (.bool false) := c4.cell 0
    have f3 := c3.frozen 0
    have f4 := c4.frozen 0
    have hB := B1.trans (hW2.mono B1.size)
    have HP := Lib.hid hp
    clear hp
    obtain ⟨x1, x2⟩ := x
    simp only
    cases hq : (x2 == tid)
    · gi_wp2
      refine ⟨KeepsFrom.refl _ _, Kt.refl _ _ _, fun y hy => ?_, hW2⟩
      rcases List.mem_append.1 hy with h | h
      · exact HP.out y h
      · simp at h; subst h; exact hq
    · gi_wp2
      have e3 := (c3.set_ 0 (.int .i64 (x1 : Nat))).far (p := ⟨w.heap.size + 1 + 1 + 1, 0, none⟩) (by simp) (.bool true)
      have e4 := (c4.far (p := ⟨w.heap.size + 1 + 1, 0, none⟩) (by simp) (.int .i64 (x1 : Nat))).set_ 0 (.bool true)
      have n1 : But (w.heap.size + 1 + 1) W (W.setCell ⟨w.heap.size + 1 + 1, 0, none⟩ (.int .i64 (x1 : Nat))) := (But.refl _ W).setCell (p := ⟨w.heap.size + 1 + 1, 0, none⟩) (.inl rfl) _
      have c41 := c4.far (p := ⟨w.heap.size + 1 + 1, 0, none⟩) (by simp) (.int .i64 (x1 : Nat))
      have n2 : But (w.heap.size + 1 + 1 + 1) (W.setCell ⟨w.heap.size + 1 + 1, 0, none⟩ (.int .i64 (x1 : Nat))) ((W.setCell ⟨w.heap.size + 1 + 1, 0, none⟩ (.int .i64 (x1 : Nat))).setCell ⟨w.heap.size + 1 + 1 + 1, 0, none⟩ (.bool true)) := (But.refl _ _).setCell (p := ⟨w.heap.size + 1 + 1 + 1, 0, none⟩) (.inl rfl) _
      have b2 := (hB.trans (n1.below _ (by omega) hB.size)).trans (n2.below _ (by omega) (Nat.le_trans hB.size n1.size))
      exact ⟨(keeps_butT n1 c3).trans (keeps_butT n2 c41), ⟨rfl, pre, (x1, x2), rfl, HP.out, hq, e3, e4⟩, b2⟩
  case done =>
    rintro D xs W hD hS ⟨hp, hW2⟩ hK
    have c3 := k31.below hW2 k31.lt
    have c4 := k41.below hW2 k41.lt
    have q3 : W.cell? ⟨w.heap.size + 1 + 1, 0, none⟩ = some (.int .i64 0) := c3.cell 0
    have q4 : W.cell? ⟨w.heap.size + 1 + 1 + 1, 0, none⟩ = some (.bool false) := c4.cell 0
    have f3 := c3.frozen 0
    have f4 := c4.frozen 0
    have hB := B1.trans (hW2.mono B1.size)
    rw [hS] at hp
    have HF := Lib.hid (homeF_none hp)
    clear hp
    gi_wp2
    have e3 := (c3.set_ 0 (.int .i64 0)).far (p := ⟨w.heap.size + 1 + 1 + 1, 0, none⟩) (by simp) (.bool false)
    have e4 := (c4.far (p := ⟨w.heap.size + 1 + 1, 0, none⟩) (by simp) (.int .i64 0)).set_ 0 (.bool false)
    have hK6 : ((W.setCell ⟨w.heap.size + 1 + 1, 0, none⟩ (.int .i64 0)).setCell ⟨w.heap.size + 1 + 1 + 1, 0, none⟩ (.bool false)).heap[D]? = some (.deferred (some [])) := (KeepsOthers.setCell _ _ _).same D _ ((KeepsOthers.setCell W _ _).same D _ hK rfl) rfl
    have b6 := (hB.setCell (p := ⟨w.heap.size + 1 + 1, 0, none⟩) (by simp; omega) (.int .i64 0)).setCell (p := ⟨w.heap.size + 1 + 1 + 1, 0, none⟩) (by simp; omega) (.bool false)
    generalize (W.setCell ⟨w.heap.size + 1 + 1, 0, none⟩ (.int .i64 0)).setCell ⟨w.heap.size + 1 + 1 + 1, 0, none⟩ (.bool false) = V6 at e3 e4 b6 hK6 ⊢
    have hg3 := grownBy_putObj' V6 D (.deferred none)
    have hr3 : ∀ r, some D = some r → ∃ o : Obj, V6.heap[r]? = some o ∧ o.isCells = false := fun r e => by cases e; exact ⟨_, hK6, rfl⟩
    refine ⟨by simp, .inl ⟨_, _, rfl, run_takeDeferred hK6, ?_⟩⟩
    refine ⟨_, results_cells2i rfl _ _ (w.heap.size + 1 + 1) (w.heap.size + 1 + 1 + 1) _ _ rfl rfl (int_load _ _ _ _ (blk_own e3 hg3 hr3)) (bool_load _ _ _ _ (blk_own e4 hg3 hr3)), ?_⟩
    exact ⟨by rw [HF.out]; rfl, b6.trans (belowK_b (w := w) (Nat.le_refl _) V6 D _ _ (by omega) hK6 rfl rfl)⟩
  case stop =>
    rintro D cd pre W hD hpre ⟨⟨rfl, ini, x, he, h1, h2, e3, e4⟩, hB⟩ hK
    have HF := Lib.hid (homeF_stop hpre he h1 h2)
    have hg3 := grownBy_putObj' W D (.deferred none)
    have hr3 : ∀ r, some D = some r → ∃ o : Obj, W.heap[r]? = some o ∧ o.isCells = false := fun r e => by cases e; exact ⟨_, hK, rfl⟩
    gi_wp2
    refine ⟨by simp, .inl ⟨_, _, rfl, run_takeDeferred hK, ?_⟩⟩
    refine ⟨_, results_cells2i rfl _ _ (w.heap.size + 1 + 1) (w.heap.size + 1 + 1 + 1) _ _ rfl rfl (int_load _ _ _ _ (blk_own e3 hg3 hr3)) (bool_load _ _ _ _ (blk_own e4 hg3 hr3)), ?_⟩
    exact ⟨by rw [HF.out], hB.trans (belowK_b (w := w) (Nat.le_refl _) W D _ _ (by omega) hK rfl rfl)⟩
theorem home_any (a : Int) (Ua : Option Addr) (um uc : Nat) (A : Option Addr) (m c : Nat) (L : List Pw) (tid : Int) (w : World) (hP : Ps w w.heap.size A L) (hm : m = L.length) (h6 : m ≤ 1000000) :
    Calls Tryz.prog 56 #[tkV a Ua um uc A m c, .int .i64 tid] w fun e w' => e = .returned (.tuple #[.int .i64 (homeF L tid).1, .bool (homeF L tid).2]) ∧ Below w.heap.size w w' := callsIn_wide.1 (home_in a Ua um uc A m c L tid w hP hm h6)
end Go.Proofs.YtlelhhgggnjndaaGreat
namespace Go.Proofs.YtlelhhgggnjndaaGreat
open Go.Shelf Go.RowKit
def Tryz.lays2_25_ren : Go.Shelf.Ren := ⟨fun | 25 => 64 | 31 => 96 | 32 => 97 | 37 => 120 | n => n, fun | 0 => 0 | 3 => 3 | 4 => 4 | 22 => 22 | 40 => 55 | n => n, fun | n => n⟩
theorem Tryz.lays2_25 : Go.Proofs.Lays2.n25 Tryz.prog Tryz.lays2_25_ren := {
  mixed := by kernel_rfl
  f25 := Tryz.func64.trans (congrArg some (by kernel_rfl))
  f31 := Tryz.func96.trans (congrArg some (by kernel_rfl))
  f32 := Tryz.func97.trans (congrArg some (by kernel_rfl))
  f37 := Tryz.func120.trans (congrArg some (by kernel_rfl))
  t0 := Tryz.underlying0
  a0 := Tryz.isAgg0
  z0 := Tryz.sizeOf0
  v0 := Tryz.zeroValue0
  t3 := Tryz.underlying3
  a3 := Tryz.isAgg3
  z3 := Tryz.sizeOf3
  v3 := Tryz.zeroValue3
  t4 := Tryz.underlying4
  a4 := Tryz.isAgg4
  z4 := Tryz.sizeOf4
  v4 := Tryz.zeroValue4
  t22 := Tryz.underlying22
  a22 := Tryz.isAgg22
  z22 := Tryz.sizeOf22
  v22 := Tryz.zeroValue22
  t40 := Tryz.underlying55
  a40 := Tryz.isAgg55
  z40 := Tryz.sizeOf55
  v40 := Tryz.zeroValue55 }
def Tryz.lays2_23_ren : Go.Shelf.Ren := ⟨fun | 23 => 133 | n => n, fun | 0 => 0 | 3 => 3 | 4 => 4 | 22 => 22 | n => n, fun | n => n⟩
theorem Tryz.lays2_23 : Go.Proofs.Lays2.n23 Tryz.prog Tryz.lays2_23_ren := {
  mixed := by kernel_rfl
  f23 := Tryz.func133.trans (congrArg some (by kernel_rfl))
  t0 := Tryz.underlying0
  a0 := Tryz.isAgg0
  z0 := Tryz.sizeOf0
  v0 := Tryz.zeroValue0
  t3 := Tryz.underlying3
  a3 := Tryz.isAgg3
  z3 := Tryz.sizeOf3
  v3 := Tryz.zeroValue3
  t4 := Tryz.underlying4
  a4 := Tryz.isAgg4
  z4 := Tryz.sizeOf4
  v4 := Tryz.zeroValue4
  t22 := Tryz.underlying22
  a22 := Tryz.isAgg22
  z22 := Tryz.sizeOf22
  v22 := Tryz.zeroValue22
  i3 := by kernel_rfl }
def Tryz.lays2_21_ren : Go.Shelf.Ren := ⟨fun | 21 => 65 | 27 => 98 | 28 => 99 | 35 => 122 | 39 => 132 | n => n, fun | 0 => 0 | 3 => 3 | 4 => 4 | 22 => 22 | n => n, fun | n => n⟩
theorem Tryz.lays2_21 : Go.Proofs.Lays2.n21 Tryz.prog Tryz.lays2_21_ren := {
  mixed := by kernel_rfl
  f21 := Tryz.func65.trans (congrArg some (by kernel_rfl))
  f27 := Tryz.func98.trans (congrArg some (by kernel_rfl))
  f28 := Tryz.func99.trans (congrArg some (by kernel_rfl))
  f35 := Tryz.func122.trans (congrArg some (by kernel_rfl))
  f39 := Tryz.func132.trans (congrArg some (by kernel_rfl))
  t0 := Tryz.underlying0
  a0 := Tryz.isAgg0
  z0 := Tryz.sizeOf0
  v0 := Tryz.zeroValue0
  t3 := Tryz.underlying3
  a3 := Tryz.isAgg3
  z3 := Tryz.sizeOf3
  v3 := Tryz.zeroValue3
  t4 := Tryz.underlying4
  a4 := Tryz.isAgg4
  z4 := Tryz.sizeOf4
  v4 := Tryz.zeroValue4
  t22 := Tryz.underlying22
  a22 := Tryz.isAgg22
  z22 := Tryz.sizeOf22
  v22 := Tryz.zeroValue22
  i3 := by kernel_rfl }
theorem qA.{u} {α : Type u} {xs : List α} {i : Nat} (h : i < xs.toArray.size) : xs.toArray[i] = xs[i] := rfl
theorem qB.{u} {α : Type u} (a : α) (zs : List α) (h : 0 < (a :: zs).length) : (a :: zs)[0]'h = a := rfl
theorem qC.{u} {α : Type u} (a : α) (zs : List α) (i : Nat) (h : i + 1 < (a :: zs).length) : (a :: zs)[i + 1]'h = zs[i]'(Nat.lt_of_succ_lt_succ h) := rfl
theorem qD.{u} {α : Type u} (l : List α) (i : Nat) (a : α) : l.toArray.setIfInBounds i a = (l.set i a).toArray := List.setIfInBounds_toArray _ _ _
theorem qE.{u} {α : Type u} {x : α} {xs : List α} {a : α} : (x :: xs).set 0 a = a :: xs := rfl
theorem qF.{u} {α : Type u} {x : α} {xs : List α} {i : Nat} {a : α} : (x :: xs).set (i + 1) a = x :: xs.set i a := rfl
end Go.Proofs.YtlelhhgggnjndaaGreat
