/-
  Range over a function that writes blocks of its own, named by a predicate, while its rounds go on; a round may leave the loop.
-/
import Derived.Test.YtceeinljakcdkaaDoorBase
import Derived.RangeFuncWrites
namespace Go.Proofs.YtceeinljakcdkaaDoor
open Go.RowKit

/-- The blocks that R names lie as they lay. -/
def KeptAt (R : Nat → Prop) (A B : World) : Prop := ∀ r, R r → B.heap[r]? = A.heap[r]?
theorem KeptAt.refl (R : Nat → Prop) (A : World) : KeptAt R A A := fun _ _ => rfl
theorem KeptAt.trans {R : Nat → Prop} {A B C : World} (h : KeptAt R A B) (k : KeptAt R B C) : KeptAt R A C := fun r hr => (k r hr).trans (h r hr)
theorem KeptAt.below {R : Nat → Prop} {A B : World} {n : Nat} (h : Below n A B) (hR : ∀ r, R r → r < n) : KeptAt R A B := fun r hr => h.block r (hR r hr)
theorem KeptAt.mono {R R' : Nat → Prop} {A B : World} (h : KeptAt R A B) (hR : ∀ r, R' r → R r) : KeptAt R' A B := fun r hr => h r (hR r hr)
/-- What is kept over new blocks, and whatever is done to the blocks that R names. -/
def AbidesR {β : Type} (R : Nat → Prop) (J : β → World → Prop) : Prop := ∀ s W W' row, J s W → W.grownBy W' row → (∀ r, row = some r → R r) → J s W'
theorem room_free {F : Fence} (hd : F.depth = none) (k : Nat) : F.room k := fun d h => by rw [hd] at h; cases h
theorem yield_any {F : Fence} (hd : F.depth = none) {m m' : Nat} {P : Program} {l : Nat} {args : Array Value} {W : World} {R : Ending → World → Prop} (h : YieldAt F m P l args W R) : YieldAt F m' P l args W R := by
  obtain ⟨fn, tmps, assign, body, hy, hR⟩ := h
  exact ⟨fn, tmps, assign, body, hy, ⟨hR.1, fun c cs _ => hR.2 c cs (room_free hd _)⟩⟩

section
variable {F : Fence} {n : Nat} {P : Program}
/-- The iterator goes through just such rows, or, where a round has left, such beginnings of them; R: what it writes, by the heap's size at its beginning. -/
def SeqR {α : Type} (F : Fence) (n : Nat) (P : Program) (gf : Nat) (lb : Array Value) (encs : α → Array Value) (S Sp : List α → Prop) (N : Nat) (R : Nat → Nat → Prop) (w : World) : Prop :=
  ∀ (l : Nat) (J Jx : List α → World → Prop) (W : World), Below w.heap.size w W → AbidesR (R W.heap.size) J → AbidesR (R W.heap.size) Jx →
    (∀ pre x W1, J pre W1 → W.heap.size ≤ W1.heap.size → (∀ r, R W.heap.size r → r < W1.heap.size) → pre.length < N → YieldAt F (n - 1) P l (encs x) W1 fun e W' =>
      KeptAt (R W.heap.size) W1 W' ∧ W1.heap.size ≤ W'.heap.size ∧ ((e = .returned (.bool true) ∧ J (pre ++ [x]) W') ∨ (e = .returned (.bool false) ∧ Jx (pre ++ [x]) W'))) →
    J [] W → CallsIn F n P gf (#[.func (.yield l) #[] #[]] ++ lb) W fun e W' => (∃ v, e = .returned v) ∧ ((∃ xs, S xs ∧ J xs W') ∨ (∃ pre, Sp pre ∧ Jx pre W'))

/-- How a round's body may be left. -/
def leftR {α : Type} (I : List α → World → Prop) (Ix : Code → List α → World → Prop) (xs : List α) : Exit → World → Prop
  | .normal, W' => I xs W'
  | .ret, W' => Ix .ret xs W'
  | .exit id, W' => Ix (.exit id) xs W'
  | .goto t, W' => Ix (.goto t) xs W'
  | .panic _, _ => False
  | .outgrown, _ => False

theorem wpIn_range6 {α : Type} {gO : Operand} {ps : Array Tmp} {assign body : Code} {Q : Exit → Act → World → Prop} {a : Act} {w : World}
    (hro : F.round = none) (h1 : 1 ≤ n) {gf : Nat} {lb : Array Value} (hg : a.eval gO = .func (.func gf) #[] lb) (hFg : F.fn gf) (eg : ∀ args w, (callFunc gf args).run P w = .ok (.enter gf args) w)
    {encs : α → Array Value} {S Sp : List α → Prop} {N : Nat} {R : Nat → Nat → Prop} {w0 : World} (hseq : SeqR F (n - 1) P gf lb encs S Sp N R w0)
    (hRB : ∀ r, R (w.heap.size + 2) r → r ≠ w.heap.size ∧ r ≠ w.heap.size + 1) (hb0 : Below w0.heap.size w0 w) (hps : ∀ x, (encs x).size = ps.size)
    (I : List α → World → Prop) (Ix : Code → List α → World → Prop) (R' : Nat → Prop) (hR' : ∀ r, R' r ↔ (R (w.heap.size + 2) r ∨ r = w.heap.size ∨ r = w.heap.size + 1))
    (hI : AbidesR R' I) (hIx : ∀ c, AbidesR R' (Ix c)) (h0 : I [] w)
    (hround : ∀ (l : Nat) (pre : List α) (x : α) (W : World), I pre W → w.heap.size + 2 ≤ W.heap.size → (∀ r, R' r → r < W.heap.size) → pre.length < N →
      assign.wpIn (F.inRound l) (n - 1 - 1) P (Exit.then (fun a1 W1 => KeptAt R' W W1 ∧ W.heap.size ≤ W1.heap.size ∧
        ∀ o', (∀ r, R' r → r < W1.heap.size) → body.wpIn (F.inRound l) (n - 1 - 1) P (fun e _ W3 => KeptAt R' (W1.putObj (w.heap.size + 1) o') W3 ∧ W1.heap.size ≤ W3.heap.size ∧ leftR I Ix (pre ++ [x]) e W3) a1 (W1.putObj (w.heap.size + 1) o')) (fun _ _ _ => False))
        { tmps := (ps.zip (encs x)).foldl (fun t (p, v) => t.setIfInBounds p v) a.tmps, defers := [] } W)
    (hdone : ∀ (xs : List α) (W : World), S xs → I xs W → W.heap[w.heap.size]? = some (.deferred (some [])) → Q .normal { a with defers := { target := .collected w.heap.size, args := #[] } :: a.defers } W)
    (hstop : ∀ (c : Code) (pre : List α) (W : World), Sp pre → Ix c pre W → W.heap[w.heap.size]? = some (.deferred (some [])) → c.wpIn F n P Q { a with defers := { target := .collected w.heap.size, args := #[] } :: a.defers } W) :
    (Code.rangeFunc gO ps assign body).wpIn F n P Q a w := by
  refine wpIn_rangeFunc fun fn hfn => ?_
  rw [hro]
  let rec_ : LoopState → Option Code → Loop := fun st pe => { state := st, pending := pe, fn, tmps := a.tmps, params := ps, assign, body, defers := w.heap.size }
  have hsz : ((w.alloc (.deferred (some []))).alloc (.loop (rec_ .ready none))).heap.size = w.heap.size + 2 := by simp
  have hL : ((w.alloc (.deferred (some []))).alloc (.loop (rec_ .ready none))).heap[w.heap.size + 1]? = some (.loop (rec_ .ready none)) := by
    have := World.alloc_heap_new (w.alloc (.deferred (some []))) (.loop (rec_ .ready none))
    rwa [World.size_alloc] at this
  have hD : ((w.alloc (.deferred (some []))).alloc (.loop (rec_ .ready none))).heap[w.heap.size]? = some (.deferred (some [])) :=
    (Below.heap_alloc _ _ _ (by simp)).trans (World.alloc_heap_new w _)
  have hB : Below w.heap.size w ((w.alloc (.deferred (some []))).alloc (.loop (rec_ .ready none))) := ((Below.refl _ w).alloc (Nat.le_refl _) _).alloc (by simp) _
  have hI1 : I [] ((w.alloc (.deferred (some []))).alloc (.loop (rec_ .ready none))) := hI _ _ _ none h0 ⟨hB.os, hB.tape, hB.output, hB.size, fun k hk _ => hB.block k hk⟩ (fun r e => by cases e)
  have r0 : R' w.heap.size := (hR' _).2 (.inr (.inl rfl))
  have r1 : R' (w.heap.size + 1) := (hR' _).2 (.inr (.inr rfl))
  refine ⟨w.heap.size + 1, [{ target := .collected w.heap.size, args := #[] }], _, { target := .fn (.func gf) lb, args := #[.func (.yield (w.heap.size + 1)) #[] #[]] }, _, gf,
    #[.func (.yield (w.heap.size + 1)) #[] #[]] ++ lb, _, run_enterLoop_outer _ _ _ _ _, by simp only [resolve, hg]; simp [go_sem]; rfl, ?_, by simp [invoke, go_sem, eg]; rfl, fun _ => h1, ?_⟩
  · intro f' hf'
    simp [Target.leads] at hf'
    subst hf'
    exact hFg
  · have keep : ∀ {A B : World} {row : Option Nat} (k : Nat) (o : Obj), (k = w.heap.size ∨ k = w.heap.size + 1) → A.grownBy B row → (∀ r, row = some r → R (w.heap.size + 2) r) → A.heap[k]? = some o → B.heap[k]? = some o := fun k o hk hgr hrow ho =>
      (hgr.block k (Array.getElem?_eq_some_iff.1 ho).1 (fun e => by have := hRB k (hrow k e.symm); omega)).trans ho
    refine (hseq (w.heap.size + 1) (fun pre W => I pre W ∧ W.heap[w.heap.size + 1]? = some (.loop (rec_ .ready none)) ∧ W.heap[w.heap.size]? = some (.deferred (some [])))
      (fun pre W => ∃ c, Ix c pre W ∧ W.heap[w.heap.size + 1]? = some (.loop (rec_ .done (some c))) ∧ W.heap[w.heap.size]? = some (.deferred (some []))) _ (hb0.trans (hB.mono hb0.size)) ?_ ?_ ?_ ⟨hI1, hL, hD⟩).mono ?_
    · rintro s A B row ⟨h1, h2, h3⟩ hgr hrow
      rw [hsz] at hrow
      exact ⟨hI _ _ _ _ h1 hgr (fun r e => (hR' r).2 (.inl (hrow r e))), keep _ _ (.inr rfl) hgr hrow h2, keep _ _ (.inl rfl) hgr hrow h3⟩
    · rintro s A B row ⟨c, h1, h2, h3⟩ hgr hrow
      rw [hsz] at hrow
      exact ⟨c, hIx c _ _ _ _ h1 hgr (fun r e => (hR' r).2 (.inl (hrow r e))), keep _ _ (.inr rfl) hgr hrow h2, keep _ _ (.inl rfl) hgr hrow h3⟩
    · rintro pre x W ⟨hi, hl, hd⟩ hlt hex hlen
      rw [hsz] at hlt hex
      have hex' : ∀ r, R' r → r < W.heap.size := fun r hr => by
        rcases (hR' r).1 hr with h | h | h
        · exact hex r h
        · omega
        · omega
      rw [hsz]
      refine ⟨fn, _, assign, body, run_yield (P := P) (args := encs x) hl (hps x), roundIn_of_wpIn hfn (wpIn_mono (hround (w.heap.size + 1) pre x W hi hlt hex' hlen) ?_)⟩
      rintro e a1 W1 h
      cases e with
      | normal =>
        obtain ⟨hk, hs1, hb⟩ := h
        have hl1 := (hk _ r1).trans hl
        refine ⟨_, run_beginRound hl1 rfl, ?_⟩
        refine wpIn_mono (hb (.loop { rec_ .ready none with state := .busy }) (fun r hr => by have := hex' r hr; omega)) ?_
        rintro e a3 W3 ⟨hk3, hs3, hleft⟩
        have hlt1 : w.heap.size + 1 < W1.heap.size := (Array.getElem?_eq_some_iff.1 hl1).1
        have m2 : W3.heap[w.heap.size + 1]? = some (.loop { rec_ .ready none with state := .busy }) := (hk3 _ r1).trans (World.putObj_heap_same hlt1)
        have m1 : W3.heap[w.heap.size]? = some (.deferred (some [])) := (hk3 _ r0).trans ((World.putObj_heap_other (by omega)).trans ((hk _ r0).trans hd))
        have hlt3 : w.heap.size + 1 < W3.heap.size := (Array.getElem?_eq_some_iff.1 m2).1
        have fin : ∀ o : Obj, KeptAt (R (w.heap.size + 2)) W (W3.putObj (w.heap.size + 1) o) ∧ W.heap.size ≤ (W3.putObj (w.heap.size + 1) o).heap.size := fun o => by
          refine ⟨fun r hr => ?_, by simp; omega⟩
          have hne := hRB r hr
          rw [World.putObj_heap_other (by omega), hk3 r ((hR' r).2 (.inl hr)), World.putObj_heap_other (by omega), hk r ((hR' r).2 (.inl hr))]
        have gI : ∀ o : Obj, I (pre ++ [x]) W3 → I (pre ++ [x]) (W3.putObj (w.heap.size + 1) o) := fun o h => hI _ _ _ _ h (grownBy_putObj' W3 _ _) (fun r e => by cases e; exact r1)
        have gX : ∀ (c : Code) (o : Obj), Ix c (pre ++ [x]) W3 → Ix c (pre ++ [x]) (W3.putObj (w.heap.size + 1) o) := fun c o h => hIx c _ _ _ _ h (grownBy_putObj' W3 _ _) (fun r e => by cases e; exact r1)
        have hD3 : ∀ o : Obj, (W3.putObj (w.heap.size + 1) o).heap[w.heap.size]? = some (.deferred (some [])) := fun o => (World.putObj_heap_other (by omega)).trans m1
        cases e with
        | normal => exact ⟨_, _, run_endRound (P := P) none m2, (fin _).1, (fin _).2, .inl ⟨rfl, gI _ hleft, World.putObj_heap_same hlt3, hD3 _⟩⟩
        | ret => exact ⟨_, _, run_endRound (P := P) (some .ret) m2, (fin _).1, (fin _).2, .inr ⟨rfl, .ret, gX _ _ hleft, World.putObj_heap_same hlt3, hD3 _⟩⟩
        | exit id => exact ⟨_, _, run_endRound (P := P) (some (.exit id)) m2, (fin _).1, (fin _).2, .inr ⟨rfl, .exit id, gX _ _ hleft, World.putObj_heap_same hlt3, hD3 _⟩⟩
        | goto t => exact ⟨_, _, run_endRound (P := P) (some (.goto t)) m2, (fin _).1, (fin _).2, .inr ⟨rfl, .goto t, gX _ _ hleft, World.putObj_heap_same hlt3, hD3 _⟩⟩
        | panic ch => exact hleft.elim
        | outgrown => exact hleft.elim
      | _ => exact h.elim
    · rintro e W2 ⟨⟨v, rfl⟩, (⟨xs, hS, hi, hl, hd⟩ | ⟨pre, hSp, c, hi, hl, hd⟩)⟩
      · exact ⟨none, _, run_endLoop (P := P) hl (by simp [rec_]), hdone xs _ hS (hI _ _ _ _ hi (grownBy_putObj' W2 _ _) (fun r e => by cases e; exact r1)) ((World.putObj_heap_other (by omega)).trans hd)⟩
      · exact ⟨some c, _, run_endLoop (P := P) hl (by simp [rec_]), hstop c pre _ hSp (hIx c _ _ _ _ hi (grownBy_putObj' W2 _ _) (fun r e => by cases e; exact r1)) ((World.putObj_heap_other (by omega)).trans hd)⟩
end
end Go.Proofs.YtceeinljakcdkaaDoor
