/-
  Range over a function that lays whatever blocks of its own and turns those alone; no round leaves the loop.
-/
import Derived.Test.YtpeofpilfpjjpaaGreatDoorHI
import Derived.RangeFuncWrites
namespace Go.Proofs.YtpeofpilfpjjpaaGreatDoor
open Go.RowKit

section
variable {F : Fence} {n : Nat} {P : Program}
/-- What lies from a block on is kept. -/
structure FromB (B : Nat) (X Y : World) : Prop where
  size : X.heap.size ≤ Y.heap.size
  block : ∀ k, B ≤ k → k < X.heap.size → Y.heap[k]? = X.heap[k]?
theorem FromB.refl (B : Nat) (X : World) : FromB B X X := ⟨Nat.le_refl _, fun _ _ _ => rfl⟩
theorem FromB.trans {B : Nat} {X Y Z : World} (h : FromB B X Y) (k : FromB B Y Z) : FromB B X Z := ⟨Nat.le_trans h.size k.size, fun i h1 h2 => (k.block i h1 (Nat.lt_of_lt_of_le h2 h.size)).trans (h.block i h1 h2)⟩
theorem FromB.of_below {B : Nat} {X Y : World} (h : Below X.heap.size X Y) : FromB B X Y := ⟨h.size, fun k _ hk => h.block k hk⟩
theorem FromB.put {B : Nat} (W : World) (l : Nat) (o : Obj) (hl : l < B) : FromB B W (W.putObj l o) := ⟨by simp, fun k h1 _ => World.putObj_heap_other (by omega)⟩
/-- What is kept over new blocks, and whatever is done to blocks from B on. -/
def AbidesN {β : Type} (B : Nat) (J : β → World → Prop) : Prop := ∀ s X Y row, J s X → X.grownBy Y row → (∀ r, row = some r → B ≤ r) → J s Y
/-- The iterator goes through just such rows, whatever the rounds do that keep what lay below n₀ and all that the iterator laid itself. -/
def SeqN {α : Type} (F : Fence) (n : Nat) (P : Program) (gf : Nat) (lb : Array Value) (encs : α → Array Value) (n₀ : Nat) (S : List α → Prop) (N : Nat) (w : World) : Prop :=
  ∀ (l : Nat) (J : List α → World → Prop) (W : World), Below n₀ w W → AbidesN W.heap.size J →
    (∀ pre x W1, J pre W1 → W.heap.size ≤ W1.heap.size → pre.length < N → YieldAt F (n - 1) P l (encs x) W1 fun e W' => e = .returned (.bool true) ∧ J (pre ++ [x]) W' ∧ Below n₀ W1 W' ∧ FromB W.heap.size W1 W') →
    J [] W → CallsIn F n P gf (#[.func (.yield l) #[] #[]] ++ lb) W fun e W' => (∃ v, e = .returned v) ∧ ∃ xs, S xs ∧ J xs W'

theorem wpIn_range7 {α : Type} {gO : Operand} {ps : Array Tmp} {assign body : Code} {Q : Exit → Act → World → Prop} {a : Act} {w : World}
    (hro : F.round = none) (h1 : 1 ≤ n) {gf : Nat} {lb : Array Value} (hg : a.eval gO = .func (.func gf) #[] lb) (hFg : F.fn gf) (eg : ∀ args w, (callFunc gf args).run P w = .ok (.enter gf args) w)
    {encs : α → Array Value} {n₀ : Nat} {S : List α → Prop} {N : Nat} {w0 : World} (hseq : SeqN F (n - 1) P gf lb encs n₀ S N w0)
    (hn0 : n₀ ≤ w.heap.size) (hb0 : Below n₀ w0 w) (hps : ∀ x, (encs x).size = ps.size)
    (I : List α → World → Prop) (hI : AbidesN w.heap.size I) (h0 : I [] w)
    (hround : ∀ (l : Nat) (pre : List α) (x : α) (W : World), I pre W → w.heap.size + 1 < W.heap.size → pre.length < N →
      assign.wpIn (F.inRound l) (n - 1 - 1) P (Exit.then (fun a1 W1 => (W1.heap[w.heap.size]? = W.heap[w.heap.size]? ∧ W1.heap[w.heap.size + 1]? = W.heap[w.heap.size + 1]?) ∧ Below n₀ W W1 ∧ FromB (w.heap.size + 2) W W1 ∧
        ∀ o o', W1.heap[w.heap.size + 1]? = some o → o.isCells = false → body.wpIn (F.inRound l) (n - 1 - 1) P (fun e _ W3 => e = .normal ∧
          (W3.heap[w.heap.size]? = W1.heap[w.heap.size]? ∧ W3.heap[w.heap.size + 1]? = some o') ∧ Below n₀ (W1.putObj (w.heap.size + 1) o') W3 ∧ FromB (w.heap.size + 2) (W1.putObj (w.heap.size + 1) o') W3 ∧ I (pre ++ [x]) W3) a1 (W1.putObj (w.heap.size + 1) o')) (fun _ _ _ => False))
        { tmps := (ps.zip (encs x)).foldl (fun t (p, v) => t.setIfInBounds p v) a.tmps, defers := [] } W)
    (hdone : ∀ (xs : List α) (W : World), S xs → I xs W → W.heap[w.heap.size]? = some (.deferred (some [])) → Q .normal { a with defers := { target := .collected w.heap.size, args := #[] } :: a.defers } W) :
    (Code.rangeFunc gO ps assign body).wpIn F n P Q a w := by
  have hKb : ∀ (W : World) (l : Nat) (o : Obj), w.heap.size ≤ l → l < W.heap.size → Below n₀ W (W.putObj l o) := fun W l o hl hs => (Below.refl n₀ W).grown (grownBy_putObj' W l o) (by omega) (fun k e => by cases e; omega)
  refine wpIn_rangeFunc fun fn hfn => ?_
  rw [hro]
  let rec_ : LoopState → Option Code → Loop := fun st pe => { state := st, pending := pe, fn, tmps := a.tmps, params := ps, assign, body, defers := w.heap.size }
  have hsz : ((w.alloc (.deferred (some []))).alloc (.loop (rec_ .ready none))).heap.size = w.heap.size + 2 := by simp
  have hL : ((w.alloc (.deferred (some []))).alloc (.loop (rec_ .ready none))).heap[w.heap.size + 1]? = some (.loop (rec_ .ready none)) := by
    have := World.alloc_heap_new (w.alloc (.deferred (some []))) (.loop (rec_ .ready none))
    rwa [World.size_alloc] at this
  have hD : ((w.alloc (.deferred (some []))).alloc (.loop (rec_ .ready none))).heap[w.heap.size]? = some (.deferred (some [])) :=
    (Below.heap_alloc _ _ _ (by simp)).trans (World.alloc_heap_new w _)
  have hB : Below w.heap.size w ((w.alloc (.deferred (some []))).alloc (.loop (rec_ .ready none))) := ((Below.refl _ w).alloc (Nat.le_refl _) _).alloc (by simp) _
  have hI1 : I [] ((w.alloc (.deferred (some []))).alloc (.loop (rec_ .ready none))) := hI _ _ _ none h0 ⟨hB.os, hB.tape, hB.output, hB.size, fun k hk _ => hB.block k hk⟩ (fun r e => by cases e)
  refine ⟨w.heap.size + 1, [{ target := .collected w.heap.size, args := #[] }], _, { target := .fn (.func gf) lb, args := #[.func (.yield (w.heap.size + 1)) #[] #[]] }, _, gf,
    #[.func (.yield (w.heap.size + 1)) #[] #[]] ++ lb, _, run_enterLoop_outer _ _ _ _ _, by simp only [resolve, hg]; simp [go_sem]; rfl, ?_, by simp [invoke, go_sem, eg]; rfl, fun _ => h1, ?_⟩
  · intro f' hf'
    simp [Target.leads] at hf'
    subst hf'
    exact hFg
  · refine (hseq (w.heap.size + 1) (fun pre W => I pre W ∧ W.heap[w.heap.size + 1]? = some (.loop (rec_ .ready none)) ∧ W.heap[w.heap.size]? = some (.deferred (some []))) _ (hb0.trans (hB.mono hn0)) ?_ ?_ ⟨hI1, hL, hD⟩).mono ?_
    · rintro s A B row ⟨h1, h2, h3⟩ hgr hrow
      rw [hsz] at hrow
      have keep : ∀ k o, k < w.heap.size + 2 → A.heap[k]? = some o → B.heap[k]? = some o := fun k o hk ho => (hgr.block k (Array.getElem?_eq_some_iff.1 ho).1 (fun e => by have := hrow k e.symm; omega)).trans ho
      exact ⟨hI _ _ _ _ h1 hgr (fun r e => by have := hrow r e; omega), keep _ _ (by omega) h2, keep _ _ (by omega) h3⟩
    · rintro pre x W ⟨hi, hl, hd⟩ hlt hlen
      rw [hsz] at hlt
      have hw : w.heap.size + 1 < W.heap.size := by omega
      refine ⟨fn, _, assign, body, run_yield (P := P) (args := encs x) hl (hps x), roundIn_of_wpIn hfn (wpIn_mono (hround (w.heap.size + 1) pre x W hi hlt hlen) ?_)⟩
      rintro e a1 W1 h
      cases e with
      | normal =>
        obtain ⟨⟨k1, k2⟩, hk, hf, hb⟩ := h
        have hl1 := k2.trans hl
        refine ⟨_, run_beginRound hl1 rfl, ?_⟩
        refine wpIn_mono (hb _ (.loop { rec_ .ready none with state := .busy }) hl1 rfl) ?_
        rintro e a3 W3 ⟨rfl, ⟨m1, m2⟩, hk3, hf3, hi3⟩
        have hr := run_endRound (P := P) none m2
        have hs1 : w.heap.size + 1 < W1.heap.size := (Array.getElem?_eq_some_iff.1 hl1).1
        have hs3 : w.heap.size + 1 < W3.heap.size := (Array.getElem?_eq_some_iff.1 m2).1
        refine ⟨_, _, hr, rfl, ⟨hI _ _ _ _ hi3 (grownBy_putObj' W3 _ _) (fun r e => by cases e; omega), World.putObj_heap_same hs3, (World.putObj_heap_other (by omega)).trans (m1.trans (k1.trans hd))⟩,
          hk.trans ((hKb W1 _ _ (by omega) hs1).trans (hk3.trans (hKb W3 _ _ (by omega) hs3))), by rw [hsz]; exact hf.trans ((FromB.put W1 _ _ (by omega)).trans (hf3.trans (FromB.put W3 _ _ (by omega))))⟩
      | _ => exact h.elim
    · rintro e W2 ⟨⟨v, rfl⟩, xs, hS, ⟨hi, hl, hd⟩⟩
      have hs2 : w.heap.size + 1 < W2.heap.size := (Array.getElem?_eq_some_iff.1 hl).1
      exact ⟨none, _, run_endLoop (P := P) hl (by simp [rec_]), hdone xs _ hS (hI _ _ _ _ hi (grownBy_putObj' W2 _ _) (fun r e => by cases e; omega)) ((World.putObj_heap_other (by omega)).trans hd)⟩
end
end Go.Proofs.YtpeofpilfpjjpaaGreatDoor
