/-
  asm.lines: the lines of a text, each with the place where it begins.
-/
import Derived.Test.YtceeinljakcdkaaDoorAsmLn
namespace Go.Proofs.YtceeinljakcdkaaDoor
open Go.RowKit Go.Shelf
attribute [local go_sem] Oper.semAt_some
set_option linter.unusedVariables false

abbrev AP := Nat × AL
def lenA (xs : List AL) : Nat := (xs.map fun x => x.1.length).sum
def plc : Nat → List AL → List AP
  | _, [] => []
  | p, x :: xs => (p, x) :: plc (p + x.1.length) xs
theorem plc_snoc (p : Nat) (xs : List AL) (x : AL) : plc p (xs ++ [x]) = plc p xs ++ [(p + lenA xs, x)] := by
  induction xs generalizing p with
  | nil => simp [plc, lenA]
  | cons y ys ih => simp [plc, ih, lenA, Nat.add_assoc]
theorem lenA_snoc (xs : List AL) (x : AL) : lenA (xs ++ [x]) = lenA xs + x.1.length := by simp [lenA]
theorem plc_len (p : Nat) (xs : List AL) : (plc p xs).length = xs.length := by
  induction xs generalizing p with
  | nil => rfl
  | cons y ys ih => simp [plc, ih]
theorem lenA_le (xs : List AL) : lenA xs ≤ xs.length * 1048576 := by
  induction xs with
  | nil => simp [lenA]
  | cons y ys ih =>
    have := y.2
    simp only [lenA, List.map_cons, List.sum_cons, List.length_cons] at ih ⊢
    omega
theorem linesL_len (l : List UInt8) : (linesL l).length ≤ l.length := by
  have h : ∀ xs : List (List UInt8), (∀ x ∈ xs, x ≠ []) → xs.length ≤ xs.flatten.length := by
    intro xs
    induction xs with
    | nil => intro _; simp
    | cons x xs ih =>
      intro hne
      have h1 := List.length_pos_iff.2 (hne x List.mem_cons_self)
      have h2 := ih (fun y hy => hne y (List.mem_cons_of_mem _ hy))
      rw [List.flatten_cons, List.length_append, List.length_cons]
      omega
  have := h (linesL l) (linesL_ne l)
  rwa [linesL_flatten] at this
theorem Blk.kept {R : Nat → Prop} {A B : World} {g : Nat} {cs : Array Value} {t : TypeId} (h : Blk A g cs t) (k : KeptAt R A B) (hg : R g) : Blk B g cs t := ⟨(k g hg).trans h.blk⟩
theorem Blk.grow {A B : World} {g : Nat} {cs : Array Value} {t : TypeId} {row : Option Nat} (h : Blk A g cs t) (hgr : A.grownBy B row) (hg : some g ≠ row) : Blk B g cs t := ⟨(hgr.block g h.lt hg).trans h.blk⟩

/-- All lines have come; a part of them has come. -/
def doneP (l : List UInt8) (xs : List AP) : Prop := ∃ ys, xs = plc 0 ys ∧ ys.map (·.1) = linesL l
def stopP (l : List UInt8) (pre : List AP) : Prop := ∃ x ini post, pre = plc 0 (ini ++ [x]) ∧ linesL l = (ini ++ [x]).map (·.1) ++ post
set_option maxRecDepth 100000 in
set_option maxHeartbeats 8000000 in
theorem plns_in (n : Nat) (hn : 6 ≤ n) (lp gt : Nat) (l : List UInt8) (hl : l.length ≤ 1048576) (J Jx : List AP → World → Prop) (W : World) (hJ : AbidesR (fun r => W.heap.size ≤ r ∧ r < W.heap.size + 5) J) (hJx : AbidesR (fun r => W.heap.size ≤ r ∧ r < W.heap.size + 5) Jx)
    (hY : ∀ pre x W1, J pre W1 → W.heap.size ≤ W1.heap.size → (∀ r, W.heap.size ≤ r ∧ r < W.heap.size + 5 → r < W1.heap.size) → pre.length < (linesL l).length → YieldAt Fence.wide (n - 1) Tryd.prog lp #[.int .i64 (x.1 : Int), .string (bs x.2.1)] W1 fun e W' =>
      KeptAt (fun r => W.heap.size ≤ r ∧ r < W.heap.size + 5) W1 W' ∧ W1.heap.size ≤ W'.heap.size ∧ ((e = .returned (.bool true) ∧ J (pre ++ [x]) W') ∨ (e = .returned (.bool false) ∧ Jx (pre ++ [x]) W')))
    (hb : Blk W gt #[.string (bs l)] 9) (h0 : J [] W) :
    CallsIn Fence.wide n Tryd.prog 56 #[.func (.yield lp) #[] #[], .pointer (some ⟨gt, 0, none⟩)] W fun e W' => (∃ v, e = .returned v) ∧
      ((∃ xs, doneP l xs ∧ J xs W') ∨ (∃ pre, stopP l pre ∧ Jx pre W')) := by
  have h1n : 1 ≤ n := by omega
  have hbe := (hb.alloc (.cells #[.func (.yield lp) #[] #[]] 99)).alloc (.cells #[.int .i64 0] 3)
  have c0 := hbe.cell 0
  simp only [List.getElem?_toArray, List.getElem?_cons_zero] at c0
  refine callsIn_of_wp_marks Tryd.func56 rfl trivial ?_ rfl
  simp only [Tryd.ntmps56, List.size_toArray, List.length_cons, List.length_nil, Nat.reduceAdd, Nat.reduceSub, Array.replicate_succ, Array.replicate_zero, List.push_toArray, List.append_toArray, List.nil_append, List.cons_append]
  gi_wp2_with (refine ⟨trivial, ?_⟩; gi_at_call 57; refine (lines_mk _ _ _).mono ?_; rintro e w' ⟨rfl, rfl⟩)
  have g0 := (((Blk.new W #[.func (.yield lp) #[] #[]] 99).alloc (.cells #[.int .i64 0] 3)).alloc (.cells #[.string (bs l)] 9))
  have g1 := (Blk.new_ (W.alloc (.cells #[.func (.yield lp) #[] #[]] 99)) #[.int .i64 0] 3 (World.size_alloc _ _)).alloc (.cells #[.string (bs l)] 9)
  have g2 := Blk.new_ ((W.alloc (.cells #[.func (.yield lp) #[] #[]] 99)).alloc (.cells #[.int .i64 0] 3)) #[.string (bs l)] 9 (n := W.heap.size + 2) (by simp)
  have hB0 : Below W.heap.size W (((W.alloc (.cells #[.func (.yield lp) #[] #[]] 99)).alloc (.cells #[.int .i64 0] 3)).alloc (.cells #[.string (bs l)] 9)) := (((Below.refl _ W).alloc (Nat.le_refl _) _).alloc (by simp) _).alloc (by simp; omega) _
  have hsz : (((W.alloc (.cells #[.func (.yield lp) #[] #[]] 99)).alloc (.cells #[.int .i64 0] 3)).alloc (.cells #[.string (bs l)] 9)).heap.size = W.heap.size + 3 := by simp
  have hJ0 := hJ _ _ _ none h0 (grown_b hB0) (fun r e => by cases e)
  have eL : ((W.alloc (.cells #[.func (.yield lp) #[] #[]] 99)).alloc (.cells #[.int .i64 0] 3)).heap.size = W.heap.size + 2 := by simp
  try rw [eL]
  generalize ((W.alloc (.cells #[.func (.yield lp) #[] #[]] 99)).alloc (.cells #[.int .i64 0] 3)).alloc (.cells #[.string (bs l)] 9) = w0 at g0 g1 g2 hB0 hsz hJ0 ⊢
  clear c0 hbe eL
  have hlns := lns_seq (n - 1) (by omega) (W.heap.size + 2) l hl w0 g2
  have hN := linesL_len l
  refine wpIn_range6 rfl (by omega) (gf := 68) (lb := #[.pointer (some ⟨W.heap.size + 2, 0, none⟩)]) rfl trivial (enters_of Tryd.func68 (by kernel_rfl) rfl) hlns (fun r hr => by rw [hsz]; omega) (Below.refl _ _) (fun _ => rfl)
    (fun pre V => J (plc 0 pre) V ∧ Blk V W.heap.size #[.func (.yield lp) #[] #[]] 99 ∧ Blk V (W.heap.size + 1) #[.int .i64 (lenA pre : Nat)] 3)
    (fun c pre V => c = .ret ∧ Jx (plc 0 pre) V) (fun r => r = W.heap.size + 2 ∨ r = W.heap.size + 3 ∨ r = W.heap.size + 4) (fun r => by rw [hsz]) ?hI ?hIx ⟨hJ0, g0, g1⟩ ?round ?done ?stop
  case hI =>
    rintro s V V' row ⟨h1, h2, h3⟩ hg hr
    exact ⟨hJ _ _ _ _ h1 hg (fun r e => by have := hr r e; omega), h2.grow hg (fun e => by have := hr _ e.symm; omega), h3.grow hg (fun e => by have := hr _ e.symm; omega)⟩
  case hIx =>
    rintro c s V V' row ⟨h1, h2⟩ hg hr
    exact ⟨h1, hJx _ _ _ _ h2 hg (fun r e => by have := hr r e; omega)⟩
  case round =>
    rintro lr pre x V ⟨hj, k0, k1⟩ hlt hex hlen
    gi_wp2
    refine ⟨KeptAt.refl _ _, fun o' => ?_⟩
    have hs4 : W.heap.size + 5 ≤ V.heap.size := by omega
    have hj2 := hJ _ _ _ (some (W.heap.size + 3 + 1)) hj (grownBy_putObj' V _ o') (fun r e => by cases e; omega)
    have m0 : Blk (V.putObj (W.heap.size + 3 + 1) o') W.heap.size #[.func (.yield lp) #[] #[]] 99 := ⟨(World.putObj_heap_other (by omega)).trans k0.blk⟩
    have m1 : Blk (V.putObj (W.heap.size + 3 + 1) o') (W.heap.size + 1) #[.int .i64 (lenA pre : Nat)] 3 := ⟨(World.putObj_heap_other (by omega)).trans k1.blk⟩
    have hz : (V.putObj (W.heap.size + 3 + 1) o').heap.size = V.heap.size := by simp
    generalize V.putObj (W.heap.size + 3 + 1) o' = V2 at hj2 m0 m1 hz ⊢
    have c0 := m0.cell 0
    have c1 := m1.cell 0
    simp only [List.getElem?_toArray, List.getElem?_cons_zero] at c0 c1
    obtain ⟨fn, tmps, assign, body, hy, hR⟩ := yield_any (m' := n - 1 - 1 - 1) rfl (hY (plc 0 pre) (lenA pre, x) V2 hj2 (by omega) (fun r hr => by omega) (by rw [plc_len]; exact hlen))
    have h1n' : 1 ≤ n - 1 - 1 := by omega
    gi_wp2
    refine (show RoundIn (Fence.wide.inRound lr) _ _ _ _ _ _ _ _ _ from hR).mono ?_
    rintro e W3 ⟨hk, hs3, hj3⟩
    have p1 := m1.kept hk (by omega)
    have p0 := m0.kept hk (by omega)
    clear hR hy c0 c1 m0 m1 hj2 hj k0 k1 hex
    rcases hj3 with ⟨rfl, hJ3⟩ | ⟨rfl, hx3⟩
    · have c1 := p1.cell 0
      have f1 := p1.frozen 0
      simp only [List.getElem?_toArray, List.getElem?_cons_zero] at c1
      have hla := lenA_le pre
      have hxl := x.2
      have hw1 : IntKind.i64.wrap ((lenA pre : Int) + ((bs x.1).size : Int)) = ((lenA pre + x.1.length : Nat) : Int) := by rw [IntKind.wrap_i64, bs_size]; omega
      gi_wp2
      refine ⟨fun r hr => (Below.heap_setCell _ _ _ _ (by simp only; omega)).trans (hk r (by omega)), by simp [World.setCell]; omega, ?_, p0.far (p := ⟨W.heap.size + 1, 0, none⟩) (by simp only; omega) _, ?_⟩
      · rw [plc_snoc, Nat.zero_add]
        exact hJ _ _ _ (some (W.heap.size + 1)) hJ3 (grown_s _ ⟨W.heap.size + 1, 0, none⟩ _) (fun r e => by cases e; omega)
      · rw [lenA_snoc]
        simpa using p1.set_ 0 (.int .i64 ((lenA pre : Int) + (x.1.length : Int)))
    · gi_wp2
      refine ⟨fun r hr => hk r (by omega), by omega, rfl, ?_⟩
      rw [plc_snoc, Nat.zero_add]
      exact hx3
  case done =>
    rintro xs V hS ⟨hj, k0, k1⟩ hD
    rw [hsz] at hD
    go_wp2_with fail
    refine ⟨by simp, .inl ⟨_, _, rfl, run_takeDeferred hD, ?_⟩⟩
    exact ⟨_, results_none rfl _ _ _, ⟨_, rfl⟩, .inl ⟨_, ⟨xs, rfl, hS⟩, hJ _ _ _ (some (W.heap.size + 3)) hj (grownBy_putObj' V _ _) (fun r e => by cases e; omega)⟩⟩
  case stop =>
    rintro c pre V ⟨x, ini, post, rfl, hpo⟩ ⟨rfl, hj⟩ hD
    rw [hsz] at hD
    gi_wp2
    refine ⟨by simp, .inl ⟨_, _, rfl, run_takeDeferred hD, ?_⟩⟩
    exact ⟨_, results_none rfl _ _ _, ⟨_, rfl⟩, .inr ⟨_, ⟨x, ini, post, rfl, hpo⟩, hJx _ _ _ (some (W.heap.size + 3)) hj (grownBy_putObj' V _ _) (fun r e => by cases e; omega)⟩⟩
end Go.Proofs.YtceeinljakcdkaaDoor
