/-
  Rows of numbers kept while others turn; what a range over a function keeps; a row that grows in its box.
-/
import Derived.Test.YtfohifnbohdbcaaZo
import Derived.RangeFuncKeeps
import Derived.RangeFuncBound
import Derived.RangeFuncCalls
import Derived.RangeFuncLeaves
import Derived.RangeFuncNested
import Derived.RangeFuncWrites
import Derived.Shelf.Abstract
import Derived.OwnWalkIn
import Derived.TacticsInMore
import Derived.LoopNIn
import Derived.LoopIn
namespace Go.Proofs.Ytfohifnbohdbcaa
open Go.RowKit Go.Shelf
attribute [local go_sem] Oper.semAt_some
set_option linter.unusedVariables false
set_option linter.unusedSimpArgs false

theorem own_but {w w' : World} {g base m c : Nat} {A : Option Addr} {l : List Int} (h : Zo w base A m c l) (n : But g w w') (hg : some g ≠ (Value.slice A m c).ownBlock) : Zo w' base A m c l := by
  refine ⟨h.1, ?_⟩
  rcases h.2 with h0 | ⟨g', cap, cur, hv, hb, hh, r⟩
  · exact .inl h0
  · refine .inr ⟨g', cap, cur, hv, hb, ?_, r⟩
    have hlt := (Array.getElem?_eq_some_iff.1 hh).1
    have hne : g' ≠ g := by
      rintro rfl
      apply hg
      rw [hv]
      rfl
    exact (n.block g' hlt hne).trans hh
theorem zo_own {W W' : World} {base m c : Nat} {A : Option Addr} {l : List Int} {row : Option Nat} (h : Zo W base A m c l) (hg : W.grownBy W' row) (hr : ∀ r, row = some r → ∃ o : Obj, W.heap[r]? = some o ∧ o.isCells = false) : Zo W' base A m c l := by
  refine ⟨h.1, ?_⟩
  rcases h.2 with h0 | ⟨g, cap, cur, hv, hb, hh, r⟩
  · exact .inl h0
  · exact .inr ⟨g, cap, cur, hv, hb, (blk_own ⟨hh⟩ hg hr).blk, r⟩
theorem zo_far {w : World} {base m c : Nat} {A : Option Addr} {l : List Int} (h : Zo w base A m c l) {p : Addr} (hp : p.block < base) (u : Value) : Zo (w.setCell p u) base A m c l := own_far h hp u
theorem wpListIn_load_midT {F : Fence} {nF : Nat} {P : Program} {ops : Array Oper} {rest : List Oper} {o : Oper} {a : Act} {w : World} {Q : Exit → Act → World → Prop} (hgd : o.guard = none) (ty : TypeId) (x : Operand) (ho : o.op = .load ty x)
    (g off : Nat) (hx : a.eval x = .pointer (some ⟨g, off, none⟩)) (cs : List Value) (d : TypeDesc) (hc : w.rangeAt g off cs)
    (hu : P.underlying ty = some d) (hd : d.isRow = true) (hi : (P.info? ty).map (·.size) = some cs.length)
    (h : wpListIn F nF P ops Q rest (a.put o.dst (.agg cs.toArray)) w) : wpListIn F nF P ops Q (o :: rest) a w := by
  refine wpListIn_plain hgd fun K hK => ?_
  have hr := run_loadVar_mid (P := P) w g off ty cs d hc hu hd hi
  unfold Oper.wpIn
  refine ⟨by simp [Oper.about, ho], ?_⟩
  rw [Oper.semAt_plain F _ _ (by rw [ho]; intro c hc'; cases hc')]
  simp only [execOp, ho, hx, Instr.loadAt, Instr.sureAddr, Sem.run_bind, Sem.run_pure, Result.andThen_ok, hr]
  exact hK _ _ h
theorem grown_of_belowT {w w' : World} (h : Below w.heap.size w w') : w.grownBy w' none := ⟨h.os, h.tape, h.output, h.size, fun k hk _ => h.block k hk⟩
theorem keeps_grownT {B : Nat} {W W' : World} {row : Option Nat} (hg : W.grownBy W' row) (hr : ∀ r, row = some r → ∃ cs, W.heap[r]? = some (.cells cs 3 (0, 0))) : KeepsFrom B W W' := ⟨hg.size, fun k o _ hk ho =>
  (hg.block k (Array.getElem?_eq_some_iff.1 hk).1 fun e => by
    obtain ⟨cs', h'⟩ := hr k e.symm
    rw [hk] at h'
    cases h'
    cases ho).trans hk⟩
theorem keeps_butT {B g : Nat} {W W' : World} {cs : Array Value} {t : TypeId} (n : But g W W') (k : Blk W g cs t) : KeepsFrom B W W' := ⟨n.size, fun j o _ hj ho =>
  (n.block j (Array.getElem?_eq_some_iff.1 hj).1 fun e => by
    subst e
    have h := k.blk
    rw [hj] at h
    cases h
    cases ho).trans hj⟩
/-- What a round keeps: all below n₀, and the iterator's own tasks. -/
structure Kt (n₀ g : Nat) (W W' : World) : Prop where
  b : Below n₀ W W'
  g : W'.heap[g]? = W.heap[g]?
theorem Kt.refl (n₀ g : Nat) (W : World) : Kt n₀ g W W := ⟨Below.refl _ _, rfl⟩
theorem Kt.trans {n₀ g : Nat} {A B C : World} (h : Kt n₀ g A B) (k : Kt n₀ g B C) : Kt n₀ g A C := ⟨h.b.trans k.b, k.g.trans h.g⟩
theorem Kt.below {n₀ g : Nat} {A B : World} (h : Below A.heap.size A B) (hn : n₀ ≤ A.heap.size) (hg : g < A.heap.size) : Kt n₀ g A B := ⟨h.mono hn, h.block g hg⟩
/-- The row that grows, in its box. -/
structure IdR (g3 : Nat) (l : List Int) (W : World) : Prop where
  r : ∃ G gm gc, Blk W g3 #[.slice G gm gc] 40 ∧ Zo W (g3 + 1) G gm gc l
theorem IdR.own {A B : World} {g3 : Nat} {l : List Int} {row : Option Nat} (h : IdR g3 l A) (hg : A.grownBy B row) (hr : ∀ r, row = some r → ∃ o : Obj, A.heap[r]? = some o ∧ o.isCells = false) : IdR g3 l B := by
  obtain ⟨G, gm, gc, k, z⟩ := h.r
  exact ⟨G, gm, gc, blk_own k hg hr, zo_own z hg hr⟩
theorem IdR.below {A B : World} {g3 : Nat} {l : List Int} (h : IdR g3 l A) (hg : Below A.heap.size A B) : IdR g3 l B := by
  obtain ⟨G, gm, gc, k, z⟩ := h.r
  exact ⟨G, gm, gc, k.below hg k.lt, z.below hg (Nat.le_refl _)⟩
theorem results_tmp1 {P : Program} {fn : Func} {p : Tmp} (h : fn.results = #[.tmp p]) (tmps : Array Value) (w : World) : (results fn tmps).run P w = .ok (tmps.getD p undef) w := by
  simp [results, h]
end Go.Proofs.Ytfohifnbohdbcaa
