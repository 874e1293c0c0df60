/-
  VmN, Range4, VmI: in one file.
-/
import Derived.Test.YtepkhkfdokinmaaDoorVmQ
import Derived.RangeFuncWrites
import Derived.Test.YtepkhkfdokinmaaDoorGA
import Derived.Test.YtepkhkfdokinmaaDoorCkMet
import Derived.Deep.RegionHeld3
/-
  The machines ahead of each step, each with what that step returns; what a round that takes them keeps: plain lemmas.
-/
namespace Go.Proofs.YtepkhkfdokinmaaDoor
open Go.RowKit

def pairV (f : Nat → Ins) (d : Int → Int) : Nat → VmS → List (VmS × Int)
  | 0, _ => []
  | n + 1, s => match stepV alI hdI (f s.pc) d s with
    | (some r, _) => [(s, r)]
    | (none, s') => (s, 0) :: pairV f d n s'
section
variable {f : Nat → Ins} {d : Int → Int}
theorem pair_len : ∀ (k : Nat) (s : VmS), (pairV f d k s).length ≤ k := by
  intro k
  induction k with
  | zero => intro s; simp [pairV]
  | succ k ih =>
    intro s
    simp only [pairV]
    cases stepV alI hdI (f s.pc) d s with
    | mk r s' =>
      cases r with
      | some r => simp
      | none => have := ih s'; simp; omega
theorem pair_fst : ∀ (k : Nat) (s : VmS), (pairV f d k s).map (·.1) = (runV alI hdI f d k s).1 := by
  intro k
  induction k with
  | zero => intro s; rfl
  | succ k ih =>
    intro s
    simp only [pairV, runV]
    cases stepV alI hdI (f s.pc) d s with
    | mk r s' =>
      cases r with
      | some r => rfl
      | none => simp [ih s']
/-- What the last one of them returns. -/
def lastV (l : List (VmS × Int)) : Int := match l.getLast? with | some x => x.2 | none => 0
theorem last_snoc (l : List (VmS × Int)) (x : VmS × Int) : lastV (l ++ [x]) = x.2 := by simp [lastV]
theorem last_cons (x y : VmS × Int) (l : List (VmS × Int)) : lastV (x :: y :: l) = lastV (y :: l) := by simp [lastV, List.getLast?_cons_cons]
theorem pair_last : ∀ (k : Nat) (s : VmS) {r : Int}, (runV alI hdI f d k s).2 = some r → lastV (pairV f d k s) = r ∧ pairV f d k s ≠ [] := by
  intro k
  induction k with
  | zero => intro s r h; simp [runV] at h
  | succ k ih =>
    intro s r h
    simp only [pairV, runV] at h ⊢
    cases hst : stepV alI hdI (f s.pc) d s with
    | mk q s' =>
      rw [hst] at h
      cases q with
      | some q =>
        simp only at h ⊢
        injection h with h
        subst h
        exact ⟨by simp [lastV], by simp⟩
      | none =>
        simp only at h ⊢
        obtain ⟨h1, h2⟩ := ih s' h
        refine ⟨?_, by simp⟩
        cases hp : pairV f d k s' with
        | nil => exact absurd hp h2
        | cons y l => rw [hp] at h1; rw [last_cons]; exact h1
variable {n : Nat}
theorem step_fwd {s s' : VmS} (hM : May f n) (ho : ∀ i, i < n → insO (f i)) (hs : s.pc < n) (h : stepV alI hdI (f s.pc) d s = (none, s')) : s.pc < s'.pc ∧ s'.pc < n := by
  have hn := hM.hi
  obtain ⟨h1, _, h4, _⟩ := oneL_ok (hM.one s.pc hs)
  exact (may_goes hM ho).ok s.pc hs _ (step_next h (by omega) (form_row h1) (fun e => by have := h4 e; omega))
theorem pair_fuel (hM : May f n) (ho : ∀ i, i < n → insO (f i)) : ∀ (k k' : Nat) (s : VmS), s.pc < n → n - s.pc ≤ k → n - s.pc ≤ k' → pairV f d k s = pairV f d k' s := by
  intro k
  induction k with
  | zero => intro k' s hs hk; omega
  | succ k ih =>
    intro k' s hs hk hk'
    obtain ⟨m, rfl⟩ : ∃ m, k' = m + 1 := ⟨k' - 1, by omega⟩
    simp only [pairV]
    cases hst : stepV alI hdI (f s.pc) d s with
    | mk r s' =>
      cases r with
      | some r => rfl
      | none =>
        obtain ⟨h1, h2⟩ := step_fwd hM ho hs hst
        simp only
        rw [ih m s' h2 (by omega) (by omega)]
/-- All that comes from a machine on. -/
def restV (f : Nat → Ins) (d : Int → Int) (n : Nat) (s : VmS) : List (VmS × Int) := pairV f d (n - s.pc) s
theorem rest_go (hM : May f n) (ho : ∀ i, i < n → insO (f i)) {s s' : VmS} (hs : s.pc < n) (h : stepV alI hdI (f s.pc) d s = (none, s')) : restV f d n s = (s, 0) :: restV f d n s' := by
  obtain ⟨h1, h2⟩ := step_fwd hM ho hs h
  obtain ⟨m, hm⟩ : ∃ m, n - s.pc = m + 1 := ⟨n - s.pc - 1, by omega⟩
  unfold restV
  rw [hm]
  simp only [pairV, h]
  rw [pair_fuel hM ho m (n - s'.pc) s' h2 (by omega) (by omega)]
theorem rest_ret {s s' : VmS} {r : Int} (hs : s.pc < n) (h : stepV alI hdI (f s.pc) d s = (some r, s')) : restV f d n s = [(s, r)] := by
  obtain ⟨m, hm⟩ : ∃ m, n - s.pc = m + 1 := ⟨n - s.pc - 1, by omega⟩
  unfold restV
  rw [hm]
  simp only [pairV, h]
theorem rest_len (s : VmS) : (restV f d n s).length ≤ n := by have := pair_len (f := f) (d := d) (n - s.pc) s; unfold restV; omega
/-- The whole of it. -/
def allV (f : Nat → Ins) (d : Int → Int) (n : Nat) : List (VmS × Int) := restV f d n vm0
theorem all_len : (allV f d n).length ≤ n := rest_len vm0
/-- What a run returns. -/
def retV (f : Nat → Ins) (d : Int → Int) (n : Nat) : Int := lastV (allV f d n)
end

/-- What a round keeps: what lay below n₀, and the machines, the programs and the data in boxes. -/
def KeptO (o : Obj) : Prop := o.isWalk = true ∨ ∃ cs t fz, o = .cells cs t fz ∧ (t = 35 ∧ cs.size = 19 ∨ t = 28 ∨ t = 32)
def KeepV (n₀ : Nat) (W W' : World) : Prop := Below n₀ W W' ∧ ∀ (k : Nat) (o : Obj), W.heap[k]? = some o → KeptO o → W'.heap[k]? = some o
theorem keepV_refl (n₀ : Nat) (W : World) : KeepV n₀ W W := ⟨Below.refl _ _, fun _ _ h _ => h⟩
theorem keepV_t {n₀ : Nat} {A B C : World} (h : KeepV n₀ A B) (k : KeepV n₀ B C) : KeepV n₀ A C := ⟨h.1.trans k.1, fun j o hj ho => k.2 j o (h.2 j o hj ho) ho⟩
theorem keepV_b {n₀ : Nat} {w : World} (hn : n₀ ≤ w.heap.size) (W : World) (l : Nat) (o o' : Obj) (hl : w.heap.size ≤ l) (h : W.heap[l]? = some o) (a : o.isCells = false) (b : o.isWalk = false) : KeepV n₀ W (W.putObj l o') := by
  refine ⟨belowK_b hn W l o o' hl h a b, fun j o2 hj ho => ?_⟩
  have hne : j ≠ l := by
    rintro rfl
    rw [h] at hj
    cases hj
    rcases ho with ho | ⟨cs, t, fz, rfl, _⟩
    · rw [b] at ho; cases ho
    · cases a
  exact (World.putObj_heap_other hne).trans hj
theorem keepV_below {n₀ : Nat} {W W' : World} (h : Below W.heap.size W W') (hn : n₀ ≤ W.heap.size) : KeepV n₀ W W' := ⟨h.mono hn, fun j _ hj _ => (h.block j (Array.getElem?_eq_some_iff.1 hj).1).trans hj⟩
theorem KeepV.mono {n₀ n₁ : Nat} {w w' : World} (h : KeepV n₁ w w') (hn : n₀ ≤ n₁) : KeepV n₀ w w' := ⟨h.1.mono hn, h.2⟩
theorem KeepV.blk {n₀ : Nat} {w w' : World} (h : KeepV n₀ w w') {g : Nat} {cs : Array Value} {t : TypeId} (k : Blk w g cs t) (ht : t = 35 ∧ cs.size = 19 ∨ t = 28 ∨ t = 32) : Blk w' g cs t := ⟨h.2 g _ k.blk (.inr ⟨cs, t, _, rfl, ht⟩)⟩
/-- A box of another kind, written. -/
theorem keepV_set {n₀ b : Nat} {w : World} {v u : Value} {t : TypeId} (hv : Boxed w b t v) (hn : n₀ ≤ b) (h1 : t ≠ 35) (h2 : t ≠ 28) (h3 : t ≠ 32) : KeepV n₀ w (w.setCell ⟨b, 0, none⟩ u) := by
  refine ⟨(Below.refl _ _).setCell (p := ⟨b, 0, none⟩) hn u, fun j o hj ho => (Below.heap_setCell w ⟨b, 0, none⟩ u j ?_).trans hj⟩
  rintro rfl
  rw [show w.heap[_]? = _ from hv] at hj
  cases hj
  rcases ho with ho | ⟨cs, t', fz, ho, h⟩
  · cases ho
  · injection ho with _ ho
    subst ho
    rcases h with ⟨h, _⟩ | h | h
    · exact h1 h
    · exact h2 h
    · exact h3 h
end Go.Proofs.YtepkhkfdokinmaaDoor

/-
  Range over a function that writes a variable of its own, the first block that it lays, while its rounds go on; no round leaves the loop.
-/
namespace Go.Proofs.YtepkhkfdokinmaaDoor
open Go.RowKit

section
variable {F : Fence} {n : Nat} {P : Program}
/-- What is kept over new blocks, and whatever is done to one block. -/
def AbidesB {β : Type} (B : Nat) (J : β → World → Prop) : Prop := ∀ s W W' row, J s W → W.grownBy W' row → (∀ r, row = some r → r = B) → J s W'
/-- .. and whatever is done to three blocks in a row. -/
def AbidesT {β : Type} (B : Nat) (I : β → World → Prop) : Prop := ∀ s W W' row, I s W → W.grownBy W' row → (∀ r, row = some r → r = B ∨ r = B + 1 ∨ r = B + 2) → I s W'
/-- The iterator goes through just such rows, whatever the rounds do that keep Kp. -/
def SeqOwn {α : Type} (F : Fence) (n : Nat) (P : Program) (g : Nat) (lb : Array Value) (encs : α → Array Value) (Kp : World → World → Prop) (S : List α → Prop) (N : Nat) (w : World) : Prop :=
  ∀ (l : Nat) (J : List α → World → Prop) (W : World), Below w.heap.size w W → AbidesB W.heap.size J →
    (∀ pre x W1, J pre W1 → W.heap.size < W1.heap.size → pre.length < N → YieldAt F (n - 1) P l (encs x) W1 fun e W' => e = .returned (.bool true) ∧ J (pre ++ [x]) W' ∧ Kp W1 W') →
    J [] W → CallsIn F n P g (#[.func (.yield l) #[] #[]] ++ lb) W fun e W' => (∃ v, e = .returned v) ∧ ∃ xs, S xs ∧ J xs W'

theorem wpIn_range4 {α : Type} {g : Operand} {ps : Array Tmp} {assign body : Code} {Q : Exit → Act → World → Prop} {a : Act} {w : World}
    (hro : F.round = none) (h1 : 1 ≤ n) {gf : Nat} {lb : Array Value} (hg : a.eval g = .func (.func gf) #[] lb) (hFg : F.fn gf) (eg : ∀ args w, (callFunc gf args).run P w = .ok (.enter gf args) w)
    {encs : α → Array Value} {Kp : World → World → Prop} {S : List α → Prop} {N : Nat} {w0 : World} (hseq : SeqOwn F (n - 1) P gf lb encs Kp S N w0)
    (hKt : ∀ {A B C : World}, Kp A B → Kp B C → Kp A C) (hKb : ∀ (W : World) (l : Nat) (o o' : Obj), w.heap.size ≤ l → W.heap[l]? = some o → o.isCells = false → o.isWalk = false → Kp W (W.putObj l o')) (hb0 : Below w0.heap.size w0 w) (hps : ∀ x, (encs x).size = ps.size)
    (I : List α → World → Prop) (hI : AbidesT w.heap.size I) (h0 : I [] w)
    (hround : ∀ (l : Nat) (pre : List α) (x : α) (W : World), I pre W → w.heap.size + 2 < W.heap.size → pre.length < N →
      assign.wpIn (F.inRound l) (n - 1 - 1) P (Exit.then (fun a1 W1 => (W1.heap[w.heap.size]? = W.heap[w.heap.size]? ∧ W1.heap[w.heap.size + 1]? = W.heap[w.heap.size + 1]?) ∧ Kp W W1 ∧
        ∀ o o', W1.heap[w.heap.size + 1]? = some o → o.isCells = false → body.wpIn (F.inRound l) (n - 1 - 1) P (fun e _ W3 => e = .normal ∧
          (W3.heap[w.heap.size]? = W1.heap[w.heap.size]? ∧ W3.heap[w.heap.size + 1]? = some o') ∧ Kp (W1.putObj (w.heap.size + 1) o') W3 ∧ I (pre ++ [x]) W3) a1 (W1.putObj (w.heap.size + 1) o')) (fun _ _ _ => False))
        { tmps := (ps.zip (encs x)).foldl (fun t (p, v) => t.setIfInBounds p v) a.tmps, defers := [] } W)
    (hdone : ∀ (xs : List α) (W : World), S xs → I xs W → W.heap[w.heap.size]? = some (.deferred (some [])) → Q .normal { a with defers := { target := .collected w.heap.size, args := #[] } :: a.defers } W) :
    (Code.rangeFunc g ps assign body).wpIn F n P Q a w := by
  refine wpIn_rangeFunc fun fn hfn => ?_
  rw [hro]
  let rec_ : LoopState → Option Code → Loop := fun st pe => { state := st, pending := pe, fn, tmps := a.tmps, params := ps, assign, body, defers := w.heap.size }
  have hsz : ((w.alloc (.deferred (some []))).alloc (.loop (rec_ .ready none))).heap.size = w.heap.size + 2 := by simp
  have hL : ((w.alloc (.deferred (some []))).alloc (.loop (rec_ .ready none))).heap[w.heap.size + 1]? = some (.loop (rec_ .ready none)) := by
    have := World.alloc_heap_new (w.alloc (.deferred (some []))) (.loop (rec_ .ready none))
    rwa [World.size_alloc] at this
  have hD : ((w.alloc (.deferred (some []))).alloc (.loop (rec_ .ready none))).heap[w.heap.size]? = some (.deferred (some [])) :=
    (Below.heap_alloc _ _ _ (by simp)).trans (World.alloc_heap_new w _)
  have hB : Below w.heap.size w ((w.alloc (.deferred (some []))).alloc (.loop (rec_ .ready none))) := ((Below.refl _ w).alloc (Nat.le_refl _) _).alloc (by simp) _
  have hI1 : I [] ((w.alloc (.deferred (some []))).alloc (.loop (rec_ .ready none))) := hI _ _ _ none h0 ⟨hB.os, hB.tape, hB.output, hB.size, fun k hk _ => hB.block k hk⟩ (fun r e => by cases e)
  refine ⟨w.heap.size + 1, [{ target := .collected w.heap.size, args := #[] }], _, { target := .fn (.func gf) lb, args := #[.func (.yield (w.heap.size + 1)) #[] #[]] }, _, gf,
    #[.func (.yield (w.heap.size + 1)) #[] #[]] ++ lb, _, run_enterLoop_outer _ _ _ _ _, by simp only [resolve, hg]; simp [go_sem]; rfl, ?_, by simp [invoke, go_sem, eg]; rfl, fun _ => h1, ?_⟩
  · intro f' hf'
    simp [Target.leads] at hf'
    subst hf'
    exact hFg
  · refine (hseq (w.heap.size + 1) (fun pre W => I pre W ∧ W.heap[w.heap.size + 1]? = some (.loop (rec_ .ready none)) ∧ W.heap[w.heap.size]? = some (.deferred (some []))) _ (hb0.trans (hB.mono hb0.size)) ?_ ?_ ⟨hI1, hL, hD⟩).mono ?_
    · rintro s A B row ⟨h1, h2, h3⟩ hgr hrow
      rw [hsz] at hrow
      have keep : ∀ k o, k < w.heap.size + 2 → A.heap[k]? = some o → B.heap[k]? = some o := fun k o hk ho => (hgr.block k (Array.getElem?_eq_some_iff.1 ho).1 (fun e => by have := hrow k e.symm; omega)).trans ho
      exact ⟨hI _ _ _ _ h1 hgr (fun r e => .inr (.inr (hrow r e))), keep _ _ (by omega) h2, keep _ _ (by omega) h3⟩
    · rintro pre x W ⟨hi, hl, hd⟩ hlt hlen
      rw [hsz] at hlt
      have hw : w.heap.size + 1 < W.heap.size := by omega
      refine ⟨fn, _, assign, body, run_yield (P := P) (args := encs x) hl (hps x), roundIn_of_wpIn hfn (wpIn_mono (hround (w.heap.size + 1) pre x W hi hlt hlen) ?_)⟩
      rintro e a1 W1 h
      cases e with
      | normal =>
        obtain ⟨⟨k1, k2⟩, hk, hb⟩ := h
        have hl1 := k2.trans hl
        refine ⟨_, run_beginRound hl1 rfl, ?_⟩
        refine wpIn_mono (hb _ (.loop { rec_ .ready none with state := .busy }) hl1 rfl) ?_
        rintro e a3 W3 ⟨rfl, ⟨m1, m2⟩, hk3, hi3⟩
        have hr := run_endRound (P := P) none m2
        have hs3 : w.heap.size + 1 < W3.heap.size := (Array.getElem?_eq_some_iff.1 m2).1
        refine ⟨_, _, hr, rfl, ⟨hI _ _ _ _ hi3 (grownBy_putObj' W3 _ _) (fun r e => by cases e; exact .inr (.inl rfl)), World.putObj_heap_same hs3, (World.putObj_heap_other (by omega)).trans (m1.trans (k1.trans hd))⟩,
          hKt hk (hKt (hKb _ _ _ _ (by omega) hl1 rfl rfl) (hKt hk3 (hKb _ _ _ _ (by omega) m2 rfl rfl)))⟩
      | _ => exact h.elim
    · rintro e W2 ⟨⟨v, rfl⟩, xs, hS, hi, hl, hd⟩
      have hs2 : w.heap.size + 1 < W2.heap.size := (Array.getElem?_eq_some_iff.1 hl).1
      exact ⟨none, _, run_endLoop (P := P) hl (by simp [rec_]), hdone xs _ hS (hI _ _ _ _ hi (grownBy_putObj' W2 _ _) (fun r e => by cases e; exact .inr (.inl rfl))) ((World.putObj_heap_other (by omega)).trans hd)⟩
end
end Go.Proofs.YtepkhkfdokinmaaDoor

/-
  vm.machines: the function over which one ranges, walked.
-/
namespace Go.Proofs.YtepkhkfdokinmaaDoor
open Go.RowKit Go.Shelf
attribute [local go_sem] Oper.semAt_some
set_option linter.unusedVariables false
set_option linter.unusedSimpArgs false

set_option maxHeartbeats 1000000 in
theorem machines_any (A : Option Addr) (m cap : Nat) (d : Dat) (w : World) :
    Calls Tryd.prog 46 #[.slice A m cap, datV d] w fun e w' => e = .returned (.func (.func 64) #[] #[.pointer (some ⟨w.heap.size, 0, none⟩), .pointer (some ⟨w.heap.size + 1, 0, none⟩)]) ∧ w' = (w.alloc (.cells #[.slice A m cap] 28)).alloc (.cells (datC d) 32) := by
  unfold datV
  go_enter Tryd.func46, Tryd.ntmps46
  go_wp2
  go_ret
  exact ⟨rfl, rfl⟩

theorem grownB {W W' : World} (h : Below W.heap.size W W') : W.grownBy W' none := ⟨h.os, h.tape, h.output, h.size, fun k hk _ => h.block k hk⟩
def wdO : Option Int → Int | some r => r | none => 0
def ovO : Option Int → Bool | some _ => true | none => false
theorem stepR_eq {q : Ins} {d : Dat} {s s2 : VmS} {o : Option Int} (h : stepV alI hdI q (dW d) s = (o, s2)) : stepR q d s = .tuple #[.agg (vmC s2), .int .u32 (wdO o), .bool (ovO o)] := by
  unfold stepR
  rw [h]
  cases o <;> rfl
theorem vm_info19 : (Tryd.prog.info? 35).map (·.size) = some 19 := by kernel_rfl
def zerL : Array Value := #[.int .i64 0, .int .u32 0, .int .u32 0, .int .u32 0, .int .u32 0, .int .u32 0, .int .u32 0, .int .u32 0, .int .u32 0, .int .u32 0, .int .u32 0, .int .u32 0, .int .u32 0, .int .u32 0, .int .u32 0, .int .u32 0, .int .u32 0, .int .u32 0, .int .u32 0]
theorem vm_z19 {p a x : Int} {mem : List Int} (h : mem.length = 16) : zerL.size = (mcC p a x mem).size := by rw [mc_size h]; rfl
theorem ri_at {w V : World} {n₀ b o : Nat} {x y z k : Int} (h : Below n₀ w V) (hb : b < n₀) (c : w.cell? ⟨b, o, none⟩ = some (.int .u16 x) ∧ w.cell? ⟨b, o + 1, none⟩ = some (.int .u8 y) ∧ w.cell? ⟨b, o + 2, none⟩ = some (.int .u8 z) ∧ w.cell? ⟨b, o + 3, none⟩ = some (.int .u32 k)) :
    V.cell? ⟨b, o, none⟩ = some (.int .u16 x) ∧ V.cell? ⟨b, o + 1, none⟩ = some (.int .u8 y) ∧ V.cell? ⟨b, o + 2, none⟩ = some (.int .u8 z) ∧ V.cell? ⟨b, o + 3, none⟩ = some (.int .u32 k) :=
  ⟨(h.cell (p := ⟨b, o, none⟩) hb).trans c.1, (h.cell (p := ⟨b, o + 1, none⟩) hb).trans c.2.1, (h.cell (p := ⟨b, o + 2, none⟩) hb).trans c.2.2.1, (h.cell (p := ⟨b, o + 3, none⟩) hb).trans c.2.2.2⟩
theorem region_cutG {P : Program} {id : Nat} {ops : Array Oper} {dr : Bool} {Q : Exit → Act → World → Prop} {a : Act} {w : World} (F : Nat → Act) (H : Nat → World → Prop)
    (h1 : (Code.region id ops dr).wp P (fun e a' w' => e = .normal ∧ ∃ g, a' = F g ∧ H g w') a w) (h2 : ∀ g w', H g w' → Q .normal (F g) w') : (Code.region id ops dr).wp P Q a w :=
  Code.wp_mono (fun e a' w' h => by obtain ⟨he, g, ha, hg⟩ := h; subst he ha; exact h2 _ _ hg) h1
theorem yieldsIf_blk {P : Program} {ops : Array Oper} {S : World → Prop} {o : Oper} {a : Act} (hw : Region.wanted o (yielded ops a.tmps) = true) (ty : TypeId) (x : Operand) (ho : o.op = .load ty x)
    (g : Nat) (hx : a.eval x = .pointer (some ⟨g, 0, none⟩)) (cs : Array Value) (t : TypeId) (d : TypeDesc) (hS : ∀ w, S w → Blk w g cs t)
    (hu : P.underlying ty = some d) (hd : (match d with | .struct _ | .array _ _ => true | _ => false) = true) (hi : (P.info? ty).map (·.size) = some cs.size) : YieldsIf P ops S o (.agg cs) a :=
  .inl ⟨hw, fun w hs => by
    unfold execOp
    simp only [ho, hx, Instr.loadAt, Instr.sureAddr, Sem.run_bind, Sem.run_pure, Result.andThen_ok, run_loadVar_row w g t ty cs (0, 0) d (hS w hs).blk hu hd hi]⟩
theorem wpListIn_load_row {F : Fence} {nF : Nat} {P : Program} {ops : Array Oper} {rest : List Oper} {o : Oper} {a : Act} {w : World} {Q : Exit → Act → World → Prop} (hgd : o.guard = none) (ty : TypeId) (x : Operand) (ho : o.op = .load ty x)
    (g : Nat) (hx : a.eval x = .pointer (some ⟨g, 0, none⟩)) (t : TypeId) (cs : Array Value) (fr : Nat × Nat) (d : TypeDesc) (hg : w.heap[g]? = some (.cells cs t fr))
    (hu : P.underlying ty = some d) (hd : (match d with | .struct _ | .array _ _ => true | _ => false) = true) (hi : (P.info? ty).map (·.size) = some cs.size)
    (h : wpListIn F nF P ops Q rest (a.put o.dst (.agg cs)) w) : wpListIn F nF P ops Q (o :: rest) a w := by
  refine wpListIn_plain hgd fun K hK => ?_
  have hr := run_loadVar_row (P := P) w g t ty cs fr d hg hu hd hi
  unfold Oper.wpIn
  refine ⟨by simp [Oper.about, ho], ?_⟩
  rw [Oper.semAt_plain F _ _ (by rw [ho]; intro c hc'; cases hc')]
  simp only [execOp, ho, hx, Instr.loadAt, Instr.sureAddr, Sem.run_bind, Sem.run_pure, Result.andThen_ok, hr]
  exact hK _ _ h
theorem wp_sz {w : World} {g h : Nat} {cs cs' : Array Value} {t t' : TypeId} (_ : Blk w g cs t) (_ : Blk w h cs' t') : True := trivial
theorem wpListIn_store_blk {F : Fence} {nF : Nat} {P : Program} {ops : Array Oper} {rest : List Oper} {o : Oper} {a : Act} {w : World} {Q : Exit → Act → World → Prop} (hgd : o.guard = none) (ty : TypeId) (x y : Operand) (ho : o.op = .store ty x y)
    (g : Nat) (cs cs' : Array Value) (t : TypeId) (hx : a.eval x = .pointer (some ⟨g, 0, none⟩)) (hy : a.eval y = .agg cs') (hb : Blk w g cs t) (hsz : cs.size = cs'.size)
    (hi : (P.info? ty).map (·.size) = some cs'.size) (h1 : cs'.all (·.oneCell') = true) (h : ∀ w', Blk w' g cs' t → But g w w' → wpListIn F nF P ops Q rest (a.put o.dst undef) w') : wpListIn F nF P ops Q (o :: rest) a w := by
  refine wpListIn_plain hgd fun K hK => ?_
  have hs := run_storeCells_at (P := P) g 0 t cs'.toList 0 cs w hb.blk (by simp; omega) (fun v hv => (Array.all_eq_true_iff_forall_mem.1 h1) v (by simpa using hv))
  have e : (cs.toList.take (0 + 0) ++ cs'.toList ++ cs.toList.drop (0 + 0 + cs'.toList.length)).toArray = cs' := by
    rw [List.drop_eq_nil_of_le (by simp; omega)]
    simp
  rw [e] at hs
  cases hq : P.info? ty with
  | none => simp [hq] at hi
  | some i =>
    have hs' : cs'.size = i.size := by simp [hq] at hi; omega
    have hrun : (storeVar ty ⟨g, 0, none⟩ (.agg cs')).run P w = .ok () (w.setRow g cs') := by simp [storeVar, sizeOf, typeInfo, hq, Value.cells, hs', hs]
    unfold Oper.wpIn
    refine ⟨by simp [Oper.about, ho], ?_⟩
    rw [Oper.semAt_plain F _ _ (by rw [ho]; intro c hc'; cases hc')]
    simp only [execOp, ho, hx, hy, Instr.storeAt, Instr.sureAddr, Sem.run_bind, Sem.run_pure, Result.andThen_ok, hrun]
    have q := setRow_blk (cs' := cs') hb
    exact hK _ _ (h _ q.1 q.2)
/-- Where a machine is. -/
def pcAt (g : Nat) (w : World) : Nat := match w.cell? ⟨g, 0, none⟩ with | some v => (intOf v).toNat | none => 0
theorem pcAt_blk {w : World} {g : Nat} {s : VmS} {t : TypeId} (h : Blk w g (vmC s) t) : pcAt g w = s.pc := by
  unfold pcAt
  rw [(h.cell 0).trans mc_0]
  simp [intOf]
/-- The iterator at a machine: what it has in memory. -/
structure MS (W V : World) (n₀ Bl Bd B4 : Nat) (A : Option Addr) (m cap : Nat) (d : Dat) (s : VmS) : Prop where
  bel : Below n₀ W V
  kl : Blk V Bl #[.slice A m cap] 28
  kd : Blk V Bd (datC d) 32
  km : Blk V B4 (vmC s) 35
section
variable {W V V' : World} {n₀ Bl Bd B4 : Nat} {A : Option Addr} {m cap : Nat} {d : Dat} {s : VmS}
theorem MS.sz (h : MS W V n₀ Bl Bd B4 A m cap d s) : W.heap.size ≤ V.heap.size := h.bel.size
theorem MS.below (h : MS W V n₀ Bl Bd B4 A m cap d s) (hn : n₀ ≤ V.heap.size) (hb : Below V.heap.size V V') : MS W V' n₀ Bl Bd B4 A m cap d s :=
  ⟨h.bel.trans (hb.mono hn), h.kl.below hb h.kl.lt, h.kd.below hb h.kd.lt, h.km.below hb h.km.lt⟩
theorem MS.keep (h : MS W V n₀ Bl Bd B4 A m cap d s) (hs : VmOk s) (hk : KeepV n₀ V V') : MS W V' n₀ Bl Bd B4 A m cap d s :=
  ⟨h.bel.trans hk.1, hk.blk h.kl (.inr (.inl rfl)), hk.blk h.kd (.inr (.inr rfl)), hk.blk h.km (.inl ⟨rfl, mc_size hs.len⟩)⟩
end

set_option maxRecDepth 100000 in
set_option maxHeartbeats 8000000 in
theorem machines_in (n : Nat) (hn : 1 ≤ n) (l n₀ Bl Bd m cap : Nat) (A : Option Addr) (f : Nat → Ins) (d : Dat) (hd : DatOk d) (hcap : m ≤ cap) (hM : May f m) (J : List (VmS × Int) → World → Prop)
    (W : World) (hn0 : n₀ ≤ W.heap.size) (h0n : 0 < n₀) (hJ : AbidesB W.heap.size J)
    (hY : ∀ pre (x : VmS × Int) W1, x.1.mem.length = 16 → J pre W1 → W.heap.size < W1.heap.size → pre.length < m → YieldAt Fence.wide (n - 1) Tryd.prog l #[vmV x.1, .int .u32 x.2] W1 fun e W' => e = .returned (.bool true) ∧ J (pre ++ [x]) W' ∧ KeepV n₀ W1 W')
    (hK : Kinds W) (bl : Blk W Bl #[.slice A m cap] 28) (bd : Blk W Bd (datC d) 32) (hA : Ri W n₀ A m f) (h0 : J [] W) :
    CallsIn Fence.wide n Tryd.prog 64 #[.func (.yield l) #[] #[], .pointer (some ⟨Bl, 0, none⟩), .pointer (some ⟨Bd, 0, none⟩)] W fun e W' => (∃ v, e = .returned v) ∧ ∃ ys, ys = allV f (dW d) m ∧ J ys W' := by
  have hm64 := hM.hi
  have hlo := hM.lo
  have hio := hA.ok
  have hne1 : Bl ≠ W.heap.size := by have := bl.lt; omega
  have hne2 : Bd ≠ W.heap.size := by have := bd.lt; omega
  refine callsIn_of_wp Tryd.func64 rfl trivial ?_ rfl
  simp only [Tryd.ntmps64, List.size_toArray, List.length_cons, List.length_nil, Nat.reduceAdd, Nat.reduceSub, Array.replicate_succ, Array.replicate_zero, List.push_toArray, List.append_toArray, List.nil_append, List.cons_append]
  refine wpIn_wide.2 ?_
  go_wp2_with (refine wpList_store_blk rfl 35 (.tmp 4) (.tmp 8) rfl W.heap.size _ _ 35 rfl rfl (Blk.new_ _ _ _ rfl) rfl vm_info19 (by simp [Value.oneCell']) ?_; intro w3 hw3 hn3)
  rw [zer_lit] at hw3
  have bW : Below W.heap.size W w3 := ((Below.refl _ W).alloc (Nat.le_refl _) _).trans (hn3.below _ (Nat.le_refl _) (by simp))
  have M0 : MS W w3 n₀ Bl Bd W.heap.size A m cap d vm0 := ⟨bW.mono hn0, bl.below bW bl.lt, bd.below bW bd.lt, hw3⟩
  have J0 := hJ _ _ _ none h0 (grownB bW) (fun r e => by cases e)
  clear hn3 hw3 bW
  simp only [Act.put]
  generalize (Value.agg #[.int .i64 0, .int .u32 0, .int .u32 0, .int .u32 0, .int .u32 0, .int .u32 0, .int .u32 0, .int .u32 0, .int .u32 0, .int .u32 0, .int .u32 0, .int .u32 0, .int .u32 0, .int .u32 0, .int .u32 0, .int .u32 0, .int .u32 0, .int .u32 0, .int .u32 0] : Value) = z8
  refine (wpIn_wide (n := n)).1 ?_
  gi_loopw [6] (fun _ wr => ∃ (pre : List (VmS × Int)) (s : VmS), s.pc < m ∧ VmOk s ∧ pre ++ restV f (dW d) m s = allV f (dW d) m ∧ J pre wr ∧ MS W wr n₀ Bl Bd W.heap.size A m cap d s)
    (fun _ wr => m - pcAt W.heap.size wr)
  case atStart => exact ⟨[], vm0, hlo, vm0_ok, rfl, J0, M0⟩
  case round =>
    obtain ⟨pre, s, hs, hok, hpre, hJs, hMs⟩ := hrel
    have ho := hio s.pc hs
    obtain ⟨b, off, rfl, hbl, pI, _⟩ := hA s.pc hs
    have hone : oneL ((m : Int) - 1 - s.pc) (f s.pc) = 0 := hM.one s.pc hs
    have CS0 := fun V hK => step_any (f s.pc) d hd s hok (by omega) _ ho hone (by omega) V hK
    obtain ⟨⟨x, y, z, k⟩, hf⟩ : ∃ q : Ins, f s.pc = q := ⟨_, rfl⟩
    have HF := Lib.hid hf
    rw [hf] at CS0 pI hone
    obtain ⟨⟨o, s2⟩, hst⟩ : ∃ t, stepV alI hdI (x, y, z, k) (dW d) s = t := ⟨_, rfl⟩
    have ok2 : VmOk s2 := step_ok (hf ▸ ho) (fun o => dW_bd d hd o) hok hst
    have HST := Lib.hid hst
    rw [stepR_eq hst] at CS0
    obtain ⟨wd, hwd⟩ : ∃ v : Int, wdO o = v := ⟨_, rfl⟩
    obtain ⟨ov, hov⟩ : ∃ v : Bool, ovO o = v := ⟨_, rfl⟩
    rw [hwd, hov] at CS0
    have HWD := Lib.hid hwd
    have HOV := Lib.hid hov
    simp only [valI, insV, datV, vmV] at CS0
    simp only at pI
    have hspc : (s.pc : Int) < m := by omega
    have CS := fun V (hV : Below wr.heap.size wr V) => CS0 V (hK.below (hMs.bel.trans (hV.mono (Nat.le_trans hn0 (hMs.sz)))) h0n)
    have QI := fun V (hV : Below wr.heap.size wr V) => ri_at (hMs.bel.trans (hV.mono (Nat.le_trans hn0 hMs.sz))) hbl pI
    clear hf hst hwd hov CS0 hone ho
    refine wpIn_wide.2 ?_
    go_wp2_with fail
    have HS : Below wr.heap.size wr wr.drew := (Below.refl _ _).drew
    refine region_cutG (fun g => { tmps := #[.func (.yield l) #[] #[], .pointer (some ⟨Bl, 0, none⟩), .pointer (some ⟨Bd, 0, none⟩), undef, .pointer (some ⟨W.heap.size, 0, none⟩), .pointer (some ⟨g, 0, none⟩), .int .u32 wd, .bool ov, z8, .tuple #[.agg (vmC s2), .int .u32 wd, .bool ov],
       .slice (some ⟨b, off, none⟩) m cap, .pointer (some ⟨W.heap.size, 0, none⟩), .int .i64 s.pc, .pointer (some ⟨b, off + s.pc * 4, none⟩), .agg #[.int .u16 x, .int .u8 y, .int .u8 z, .int .u32 k], .agg (datC d), .agg (vmC s), .tuple #[.agg (vmC s2), .int .u32 wd, .bool ov], .agg (vmC s2), .int .u32 wd, .bool ov, u21, u22, u23, u24, u25, u26, u27, u28, u29], defers := [] })
      (fun g V => Below wr.heap.size wr V ∧ wr.heap.size ≤ g ∧ Blk V g (vmC s2) 35) ?_ ?_
    · refine wp_region_held_drew (S := fun V => Below wr.heap.size wr V) (by kernel_rfl) HS (fun _ => ?_)
      refine wpAnyH_take (i := 0) (v := .slice (some ⟨b, off, none⟩) m cap) rfl (by kernel_rfl) (by kernel_rfl) (by kernel_rfl) (fun _ _ _ h => nomatch h.1) (.inl ⟨by rfl, fun V hV => by have c := (hMs.kl.below hV hMs.kl.lt).cell 0; go_simp⟩) HS ?_
      try simp only [Act.put, List.getElem_toArray, List.getElem_cons_zero, List.getElem_cons_succ, List.setIfInBounds_toArray, List.set_cons_zero, List.set_cons_succ]
      refine wpAnyH_take (i := 1) (v := .pointer (some ⟨W.heap.size, 0, none⟩)) rfl (by kernel_rfl) (by kernel_rfl) (by kernel_rfl) (fun _ _ _ h => nomatch h.1) (.inl ⟨by rfl, fun V hV => by go_simp⟩) HS ?_
      try simp only [Act.put, List.getElem_toArray, List.getElem_cons_zero, List.getElem_cons_succ, List.setIfInBounds_toArray, List.set_cons_zero, List.set_cons_succ]
      refine wpAnyH_take (i := 2) (v := .int .i64 s.pc) rfl (by kernel_rfl) (by kernel_rfl) (by kernel_rfl) (fun _ _ _ h => nomatch h.1) (.inl ⟨by rfl, fun V hV => by have c := ((hMs.km.below hV hMs.km.lt).cell 0).trans mc_0; go_simp⟩) HS ?_
      try simp only [Act.put, List.getElem_toArray, List.getElem_cons_zero, List.getElem_cons_succ, List.setIfInBounds_toArray, List.set_cons_zero, List.set_cons_succ]
      refine wpAnyH_take (i := 3) (v := .pointer (some ⟨b, off + s.pc * 4, none⟩)) rfl (by kernel_rfl) (by kernel_rfl) (by kernel_rfl) (fun _ _ _ h => nomatch h.1) (.inl ⟨by rfl, fun V hV => by go_simp⟩) HS ?_
      try simp only [Act.put, List.getElem_toArray, List.getElem_cons_zero, List.getElem_cons_succ, List.setIfInBounds_toArray, List.set_cons_zero, List.set_cons_succ]
      refine wpAnyH_take (i := 4) (v := .agg #[.int .u16 x, .int .u8 y, .int .u8 z, .int .u32 k]) rfl (by kernel_rfl) (by kernel_rfl) (by kernel_rfl) (fun _ _ _ h => nomatch h.1) (.inl ⟨by rfl, fun V hV => by obtain ⟨q0, q1, q2, q3⟩ := QI V hV; go_simp⟩) HS ?_
      try simp only [Act.put, List.getElem_toArray, List.getElem_cons_zero, List.getElem_cons_succ, List.setIfInBounds_toArray, List.set_cons_zero, List.set_cons_succ]
      refine wpAnyH_take (i := 5) (v := .agg (datC d)) rfl (by kernel_rfl) (by kernel_rfl) (by kernel_rfl) (fun _ _ _ h => nomatch h.1) (yieldsIf_blk (by rfl) 32 (.tmp 2) rfl Bd rfl (datC d) 32 _ (fun V hV => hMs.kd.below hV hMs.kd.lt) Tryd.underlying32 rfl dat_info) HS ?_
      try simp only [Act.put, List.getElem_toArray, List.getElem_cons_zero, List.getElem_cons_succ, List.setIfInBounds_toArray, List.set_cons_zero, List.set_cons_succ]
      refine wpAnyH_take (i := 6) (v := .agg (vmC s)) rfl (by kernel_rfl) (by kernel_rfl) (by kernel_rfl) (fun _ _ _ h => nomatch h.1) (yieldsIf_blk (by rfl) 35 (.tmp 4) rfl W.heap.size rfl (vmC s) 35 _ (fun V hV => hMs.km.below hV hMs.km.lt) Tryd.underlying35 rfl (mc_inf hok.len)) HS ?_
      try simp only [Act.put, List.getElem_toArray, List.getElem_cons_zero, List.getElem_cons_succ, List.setIfInBounds_toArray, List.set_cons_zero, List.set_cons_succ]
      refine wpAnyH_ready (rs := [7, 12]) (by kernel_rfl) (by simp) ?_
      refine AllReadyH.cons rfl (fun K hK => ?_) ?_
      · try simp only [List.getElem_toArray, List.getElem_cons_zero, List.getElem_cons_succ, List.setIfInBounds_toArray, List.set_cons_zero, List.set_cons_succ]
        go_simp
        refine (CS _ HS).mono ?_
        rintro e V1 ⟨rfl, b1⟩
        go_wp2_with fail
        refine hK.out _ _ (HS.trans (b1.mono HS.size)) (fun J1 => ?_)
        clear hK K
        try simp only [Act.put, List.getElem_toArray, List.getElem_cons_zero, List.getElem_cons_succ, List.setIfInBounds_toArray, List.set_cons_zero, List.set_cons_succ]
        refine wpAnyH_take (i := 8) (v := .tuple #[.agg (vmC s2), .int .u32 wd, .bool ov]) rfl (by kernel_rfl) (by kernel_rfl) (by kernel_rfl) (fun _ _ _ h => nomatch h.1) (.inl ⟨by rfl, fun V hV => by go_simp⟩) J1 ?_
        try simp only [Act.put, List.getElem_toArray, List.getElem_cons_zero, List.getElem_cons_succ, List.setIfInBounds_toArray, List.set_cons_zero, List.set_cons_succ]
        refine wpAnyH_take (i := 9) (v := .agg (vmC s2)) rfl (by kernel_rfl) (by kernel_rfl) (by kernel_rfl) (fun _ _ _ h => nomatch h.1) (.inl ⟨by rfl, fun V hV => by go_simp⟩) J1 ?_
        try simp only [Act.put, List.getElem_toArray, List.getElem_cons_zero, List.getElem_cons_succ, List.setIfInBounds_toArray, List.set_cons_zero, List.set_cons_succ]
        refine wpAnyH_take (i := 10) (v := .int .u32 wd) rfl (by kernel_rfl) (by kernel_rfl) (by kernel_rfl) (fun _ _ _ h => nomatch h.1) (.inl ⟨by rfl, fun V hV => by go_simp⟩) J1 ?_
        try simp only [Act.put, List.getElem_toArray, List.getElem_cons_zero, List.getElem_cons_succ, List.setIfInBounds_toArray, List.set_cons_zero, List.set_cons_succ]
        refine wpAnyH_take (i := 11) (v := .bool ov) rfl (by kernel_rfl) (by kernel_rfl) (by kernel_rfl) (fun _ _ _ h => nomatch h.1) (.inl ⟨by rfl, fun V hV => by go_simp⟩) J1 ?_
        try simp only [Act.put, List.getElem_toArray, List.getElem_cons_zero, List.getElem_cons_succ, List.setIfInBounds_toArray, List.set_cons_zero, List.set_cons_succ]
        refine wpAnyH_ready (rs := [12]) (by kernel_rfl) (by simp) ?_
        refine AllReadyH.cons rfl (fun K hK => ?_) AllReadyH.nil
        try simp only [List.getElem_toArray, List.getElem_cons_zero, List.getElem_cons_succ, List.setIfInBounds_toArray, List.set_cons_zero, List.set_cons_succ]
        go_simp
        refine hK.out _ _ (J1.alloc J1.size _) (fun J2 => ?_)
        clear hK K
        have F2 := And.intro J1.size (Blk.new V1 zerL 35)
        try simp only [Act.put, List.getElem_toArray, List.getElem_cons_zero, List.getElem_cons_succ, List.setIfInBounds_toArray, List.set_cons_zero, List.set_cons_succ]
        refine wpAnyH_ready (rs := [13]) (by kernel_rfl) (by simp) ?_
        refine AllReadyH.cons rfl (fun K hK => ?_) AllReadyH.nil
        try simp only [List.getElem_toArray, List.getElem_cons_zero, List.getElem_cons_succ, List.setIfInBounds_toArray, List.set_cons_zero, List.set_cons_succ]
        rw [if_pos (by rfl)]
        refine wp_store_blk 35 (.tmp 5) (.tmp 18) rfl _ _ (vmC s2) 35 rfl rfl F2.2 (vm_z19 ok2.len) (mc_inf ok2.len) mc_one ?_
        intro V3 F3 N3
        have G3 := F2.1
        refine hK.out _ _ (J2.trans (N3.below _ G3 J2.size)) (fun J3 => ?_)
        clear hK K
        try simp only [Act.put]
        refine wpAnyH_take (i := 14) (v := .int .u32 wd) rfl (by kernel_rfl) (by kernel_rfl) (by kernel_rfl) (fun _ _ _ h => nomatch h.1) (.inl ⟨by rfl, fun V hV => by go_simp⟩) J3 ?_
        try simp only [Act.put, List.getElem_toArray, List.getElem_cons_zero, List.getElem_cons_succ, List.setIfInBounds_toArray, List.set_cons_zero, List.set_cons_succ]
        refine wpAnyH_take (i := 15) (v := .bool ov) rfl (by kernel_rfl) (by kernel_rfl) (by kernel_rfl) (fun _ _ _ h => nomatch h.1) (.inl ⟨by rfl, fun V hV => by go_simp⟩) J3 ?_
        try simp only [Act.put, List.getElem_toArray, List.getElem_cons_zero, List.getElem_cons_succ, List.setIfInBounds_toArray, List.set_cons_zero, List.set_cons_succ]
        refine wpAnyH_done (by kernel_rfl) ?_ _
        exact ⟨rfl, _, rfl, J3, G3, F3⟩
      refine AllReadyH.cons rfl (fun K hK => ?_) AllReadyH.nil
      try simp only [List.getElem_toArray, List.getElem_cons_zero, List.getElem_cons_succ, List.setIfInBounds_toArray, List.set_cons_zero, List.set_cons_succ]
      go_simp
      refine hK.out _ _ (HS.alloc HS.size _) (fun J4 => ?_)
      clear hK K
      have F4 := And.intro HS.size (Blk.new wr.drew zerL 35)
      try simp only [Act.put, List.getElem_toArray, List.getElem_cons_zero, List.getElem_cons_succ, List.setIfInBounds_toArray, List.set_cons_zero, List.set_cons_succ]
      refine wpAnyH_ready (rs := [7]) (by kernel_rfl) (by simp) ?_
      refine AllReadyH.cons rfl (fun K hK => ?_) AllReadyH.nil
      try simp only [List.getElem_toArray, List.getElem_cons_zero, List.getElem_cons_succ, List.setIfInBounds_toArray, List.set_cons_zero, List.set_cons_succ]
      go_simp
      refine (CS _ J4).mono ?_
      rintro e V5 ⟨rfl, b5⟩
      go_wp2_with fail
      refine hK.out _ _ (J4.trans (b5.mono J4.size)) (fun J5 => ?_)
      clear hK K
      have F5 := And.intro F4.1 (F4.2.below b5 F4.2.lt)
      try simp only [Act.put, List.getElem_toArray, List.getElem_cons_zero, List.getElem_cons_succ, List.setIfInBounds_toArray, List.set_cons_zero, List.set_cons_succ]
      refine wpAnyH_take (i := 8) (v := .tuple #[.agg (vmC s2), .int .u32 wd, .bool ov]) rfl (by kernel_rfl) (by kernel_rfl) (by kernel_rfl) (fun _ _ _ h => nomatch h.1) (.inl ⟨by rfl, fun V hV => by go_simp⟩) J5 ?_
      try simp only [Act.put, List.getElem_toArray, List.getElem_cons_zero, List.getElem_cons_succ, List.setIfInBounds_toArray, List.set_cons_zero, List.set_cons_succ]
      refine wpAnyH_take (i := 9) (v := .agg (vmC s2)) rfl (by kernel_rfl) (by kernel_rfl) (by kernel_rfl) (fun _ _ _ h => nomatch h.1) (.inl ⟨by rfl, fun V hV => by go_simp⟩) J5 ?_
      try simp only [Act.put, List.getElem_toArray, List.getElem_cons_zero, List.getElem_cons_succ, List.setIfInBounds_toArray, List.set_cons_zero, List.set_cons_succ]
      refine wpAnyH_take (i := 10) (v := .int .u32 wd) rfl (by kernel_rfl) (by kernel_rfl) (by kernel_rfl) (fun _ _ _ h => nomatch h.1) (.inl ⟨by rfl, fun V hV => by go_simp⟩) J5 ?_
      try simp only [Act.put, List.getElem_toArray, List.getElem_cons_zero, List.getElem_cons_succ, List.setIfInBounds_toArray, List.set_cons_zero, List.set_cons_succ]
      refine wpAnyH_take (i := 11) (v := .bool ov) rfl (by kernel_rfl) (by kernel_rfl) (by kernel_rfl) (fun _ _ _ h => nomatch h.1) (.inl ⟨by rfl, fun V hV => by go_simp⟩) J5 ?_
      try simp only [Act.put, List.getElem_toArray, List.getElem_cons_zero, List.getElem_cons_succ, List.setIfInBounds_toArray, List.set_cons_zero, List.set_cons_succ]
      refine wpAnyH_ready (rs := [13]) (by kernel_rfl) (by simp) ?_
      refine AllReadyH.cons rfl (fun K hK => ?_) AllReadyH.nil
      try simp only [List.getElem_toArray, List.getElem_cons_zero, List.getElem_cons_succ, List.setIfInBounds_toArray, List.set_cons_zero, List.set_cons_succ]
      rw [if_pos (by rfl)]
      refine wp_store_blk 35 (.tmp 5) (.tmp 18) rfl _ _ (vmC s2) 35 rfl rfl F5.2 (vm_z19 ok2.len) (mc_inf ok2.len) mc_one ?_
      intro V6 F6 N6
      have G6 := F5.1
      refine hK.out _ _ (J5.trans (N6.below _ G6 J5.size)) (fun J6 => ?_)
      clear hK K
      try simp only [Act.put]
      refine wpAnyH_take (i := 14) (v := .int .u32 wd) rfl (by kernel_rfl) (by kernel_rfl) (by kernel_rfl) (fun _ _ _ h => nomatch h.1) (.inl ⟨by rfl, fun V hV => by go_simp⟩) J6 ?_
      try simp only [Act.put, List.getElem_toArray, List.getElem_cons_zero, List.getElem_cons_succ, List.setIfInBounds_toArray, List.set_cons_zero, List.set_cons_succ]
      refine wpAnyH_take (i := 15) (v := .bool ov) rfl (by kernel_rfl) (by kernel_rfl) (by kernel_rfl) (fun _ _ _ h => nomatch h.1) (.inl ⟨by rfl, fun V hV => by go_simp⟩) J6 ?_
      try simp only [Act.put, List.getElem_toArray, List.getElem_cons_zero, List.getElem_cons_succ, List.setIfInBounds_toArray, List.set_cons_zero, List.set_cons_succ]
      refine wpAnyH_done (by kernel_rfl) ?_ _
      exact ⟨rfl, _, rfl, J6, G6, F6⟩
    · rintro g V ⟨hV, hg, hF⟩
      rename_i K0 hK0
      refine hK0 _ _ ?_
      clear hK0 K0
      refine (wpIn_wide (n := n)).1 ?_
      have hMV := hMs.below (Nat.le_trans hn0 hMs.sz) hV
      have JV := hJ _ _ _ none hJs (grownB hV) (fun r e => by cases e)
      have hlen : pre.length < m := by
        have h1 := congrArg List.length hpre
        have h2 := all_len (f := f) (d := dW d) (n := m)
        rw [List.length_append] at h1
        have h3 : 0 < (restV f (dW d) m s).length := by
          cases hst : stepV alI hdI (f s.pc) (dW d) s with
          | mk r t => cases r with
            | some r => rw [rest_ret hs hst]; simp
            | none => rw [rest_go hM hio hs hst]; simp
        omega
      obtain ⟨fn, tmps, assign, body, hy, hR⟩ := hY pre (s, wd) _ hok.len JV hMV.km.lt hlen
      simp only [vmV] at hy
      gi_wp2_with (first
        | (refine wpListIn_load_row rfl 35 (.tmp 4) rfl W.heap.size rfl 35 (vmC s) (0, 0) _ hMV.km.blk Tryd.underlying35 rfl (mc_inf hok.len) ?_))
      refine hR.mono ?_
      rintro e W3 ⟨rfl, hJ3, hk3⟩
      · have hM3 := hMV.keep hok hk3
        have hF3 := hk3.blk hF (.inl ⟨rfl, mc_size ok2.len⟩)
        have hW3 : W.heap.size ≤ W3.heap.size := hM3.bel.size
        have sz0 := wp_sz hF3 hM3.km
        clear hR hy hJs JV hMV hF hk3 hV HS CS QI
        cases ov
        · have e0 : o = none := by
            have := HOV.out
            cases o with
            | none => rfl
            | some r => cases this
          have hst : stepV alI hdI (f s.pc) (dW d) s = (none, s2) := by rw [HF.out, HST.out, e0]
          have hw0 : wd = 0 := by rw [← HWD.out, e0]; rfl
          obtain ⟨hf1, hf2⟩ := step_fwd hM hio hs hst
          have hr := rest_go hM hio hs hst
          have HPRE := Lib.hid (show (pre ++ [(s, wd)]) ++ restV f (dW d) m s2 = allV f (dW d) m by rw [← hpre, hr, hw0]; simp)
          clear hpre hr e0 hst
          gi_wp2_with (first
            | (refine wpListIn_load_row rfl 35 (.tmp 5) rfl g rfl 35 (vmC s2) (0, 0) _ hF3.blk Tryd.underlying35 rfl (mc_inf ok2.len) ?_)
            | (refine wpListIn_store_blk rfl 35 (.tmp 4) (.tmp 29) rfl W.heap.size _ (vmC s2) 35 rfl rfl hM3.km ((mc_size hok.len).trans (mc_size ok2.len).symm) (mc_inf ok2.len) mc_one ?_; intro W4 hF4 hn4))
          have hJ4 := hJ _ _ _ (some W.heap.size) hJ3 ⟨hn4.os, hn4.tape, hn4.output, hn4.size, fun k hk hne => hn4.block k hk (fun e => hne (by rw [e]))⟩ (fun r e => by cases e; rfl)
          have hM4 : MS W W4 n₀ Bl Bd W.heap.size (some ⟨b, off, none⟩) m cap d s2 := ⟨hM3.bel.trans (hn4.below n₀ hn0 (Nat.le_trans hn0 hW3)), But.blk' hn4 hM3.kl hne1, But.blk' hn4 hM3.kd hne2, hF4⟩
          try simp only [Act.put]
          go_roundw
          case rel => exact ⟨_, _, _, _, _, _, _, _, _, _, _, _, _, _, _, _, _, _, _, _, _, _, _, _, ⟨pre ++ [(s, wd)], s2, hf2, ok2, HPRE.out, hJ4, hM4⟩, rfl⟩
          case measure =>
            rw [pcAt_blk hF4, pcAt_blk hMs.km]
            omega
        · obtain ⟨r, e0⟩ : ∃ r, o = some r := by
            have := HOV.out
            cases o with
            | none => cases this
            | some r => exact ⟨r, rfl⟩
          have hst : stepV alI hdI (f s.pc) (dW d) s = (some r, s2) := by rw [HF.out, HST.out, e0]
          have hw0 : wd = r := by rw [← HWD.out, e0]; rfl
          have hr := rest_ret hs hst
          have HPRE := Lib.hid (show pre ++ [(s, wd)] = allV f (dW d) m by rw [← hpre, hr, hw0])
          clear hpre hr e0 hst hw0
          gi_wp2
          refine bodyPost_ret (results_none rfl _ _ _) rfl ?_
          exact ⟨⟨_, rfl⟩, _, HPRE.out, hJ3⟩

theorem machines_seq (n : Nat) (hn : 1 ≤ n) (n₀ Bl Bd m cap : Nat) (A : Option Addr) (f : Nat → Ins) (d : Dat) (hd : DatOk d) (hcap : m ≤ cap) (hM : May f m) (w : World) (hn0 : n₀ ≤ w.heap.size) (h0n : 0 < n₀) (hK : Kinds w)
    (bl : Blk w Bl #[.slice A m cap] 28) (bd : Blk w Bd (datC d) 32) (hA : Ri w n₀ A m f) :
    SeqOwn Fence.wide n Tryd.prog 64 #[.pointer (some ⟨Bl, 0, none⟩), .pointer (some ⟨Bd, 0, none⟩)] (fun x : VmS × Int => #[vmV x.1, .int .u32 x.2]) (KeepV n₀) (fun ys => ys = allV f (dW d) m) m w :=
  fun l J W hW hJ hY h0 => machines_in n hn l n₀ Bl Bd m cap A f d hd hcap hM J W (Nat.le_trans hn0 hW.size) h0n hJ (fun pre x W1 _ => hY pre x W1) (hK.below hW (by omega)) (bl.below hW bl.lt) (bd.below hW bd.lt) (hA.below hW hn0) h0

/-- A machine of sixteen words, and what its step returns. -/
abbrev VmX := { x : VmS × Int // x.1.mem.length = 16 }
theorem machines_seq16 (n : Nat) (hn : 1 ≤ n) (n₀ Bl Bd m cap : Nat) (A : Option Addr) (f : Nat → Ins) (d : Dat) (hd : DatOk d) (hcap : m ≤ cap) (hM : May f m) (w : World) (hn0 : n₀ ≤ w.heap.size) (h0n : 0 < n₀) (hK : Kinds w)
    (bl : Blk w Bl #[.slice A m cap] 28) (bd : Blk w Bd (datC d) 32) (hA : Ri w n₀ A m f) :
    SeqOwn Fence.wide n Tryd.prog 64 #[.pointer (some ⟨Bl, 0, none⟩), .pointer (some ⟨Bd, 0, none⟩)] (fun x : VmX => #[vmV x.val.1, .int .u32 x.val.2]) (KeepV n₀) (fun ys => ys.map (·.val) = allV f (dW d) m) m w :=
  fun l J W hW hJ hY h0 => by
    refine (machines_in n hn l n₀ Bl Bd m cap A f d hd hcap hM (fun pre W => ∃ p : List VmX, p.map (·.val) = pre ∧ J p W) W (Nat.le_trans hn0 hW.size) h0n ?_ ?_ (hK.below hW (by omega)) (bl.below hW bl.lt) (bd.below hW bd.lt) (hA.below hW hn0) ⟨[], rfl, h0⟩).mono ?_
    · rintro s V V' row ⟨p, hp, hj⟩ hg hr
      exact ⟨p, hp, hJ _ _ _ _ hj hg hr⟩
    · rintro pre x W1 hx ⟨p, rfl, hj⟩ hlt hlen
      obtain ⟨fn, tmps, assign, body, hy, hR⟩ := hY p ⟨x, hx⟩ W1 hj hlt (by simpa using hlen)
      refine ⟨fn, tmps, assign, body, hy, hR.mono ?_⟩
      rintro e W2 ⟨he, hj2, hk⟩
      exact ⟨he, ⟨p ++ [⟨x, hx⟩], by simp, hj2⟩, hk⟩
    · rintro e W1 ⟨hv, ys, hys, p, hp, hj⟩
      exact ⟨hv, p, hp.trans hys, hj⟩
end Go.Proofs.YtepkhkfdokinmaaDoor
