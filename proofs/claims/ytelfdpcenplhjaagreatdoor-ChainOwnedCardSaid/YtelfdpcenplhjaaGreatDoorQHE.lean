/-
  ChkM, ChkS, TabM: in one file.
-/
import Derived.Test.YtelfdpcenplhjaaGreatDoorQHH
import Derived.BigQuiet
import Derived.StillTail
import Derived.Deep.Quiet
import Derived.Deep.MidRow
import Derived.Deep.RegionHeld3
import Derived.RangeFuncWrites
import Derived.OwnWalkIn
import Derived.OrdersIn
import Derived.RangeFuncLeaves
import Derived.RangeFuncOwn
import Derived.Laws.Strings
namespace Go.Proofs.YtelfdpcenplhjaaGreatDoor
open Go.RowKit
structure Sig (S : World → Prop) where
  V : World
  h : S V
theorem region_class {P : Program} {S : World → Prop} {id : Nat} {Q : Exit → Act → World → Prop} {a : Act} {w : World} {l : List Oper} (hm : P.follows .mixedOrders = true) (hB : Region.lexB .any l.toArray = true)
    (hS : S w.drew) (h : wpQuiet P l.toArray (fun w' => ∃ s : Sig S, w' = s.V) (fun a' => ∀ w', (∃ s : Sig S, w' = s.V) → Q .normal a' w') l a) : (Code.region id l.toArray true).wp P Q a w :=
  wp_region_quiet (C := fun w' => ∃ s : Sig S, w' = s.V) hm hB ⟨⟨_, hS⟩, rfl⟩ (by simpa using h)
theorem class_call {P : Program} {S : World → Prop} {f : FuncId} {args : Array Value} {v : Value} (s : Sig S) (h : ∀ V, S V → Calls P f args V fun e w' => e = .returned v ∧ S w') :
    Calls P f args s.V fun e w' => e = .returned v ∧ ∃ s' : Sig S, w' = s'.V := (h s.V s.h).mono fun _ w' ⟨he, hs⟩ => ⟨he, ⟨w', hs⟩, rfl⟩
end Go.Proofs.YtelfdpcenplhjaaGreatDoor
namespace Go.Proofs.YtelfdpcenplhjaaGreatDoor
open Go.RowKit
theorem class_load {P : Program} {ops : Array Oper} {S : World → Prop} {Q : Act → Prop} {a : Act} {o : Oper} {rest : List Oper} (hw : Region.wanted o (yielded ops a.tmps) = true) (ty : TypeId) (x : Operand) (ho : o.op = .load ty x)
    (g : Nat) (hx : a.eval x = .pointer (some ⟨g, 0, none⟩)) (cs : Array Value) (t : TypeId) (d : TypeDesc) (hS : ∀ w, S w → Blk w g cs t)
    (hu : P.underlying ty = some d) (hd : (match d with | .struct _ | .array _ _ => true | _ => false) = true) (hi : (P.info? ty).map (·.size) = some cs.size)
    (h : wpQuiet P ops (fun w' => ∃ s : Sig S, w' = s.V) Q rest (a.put o.dst (.agg cs))) : wpQuiet P ops (fun w' => ∃ s : Sig S, w' = s.V) Q (o :: rest) a :=
  wpQuiet_step fun K hK => by
    rw [if_pos hw]
    refine ⟨.agg cs, ?_, hK _ h⟩
    rintro w ⟨s, rfl⟩
    unfold Oper.quietAt execOp
    simp only [ho, hx, Instr.loadAt, Instr.sureAddr, Sem.run_bind, Sem.run_pure, Result.andThen_ok, run_loadVar_row s.V g t ty cs (0, 0) d (hS s.V s.h).blk hu hd hi]
    exact ⟨rfl, rfl⟩
theorem calls_keep {P : Program} {S : World → Prop} {f : FuncId} {args : Array Value} {v : Value} (hb : ∀ V V', S V → Below V.heap.size V V' → S V') (h : ∀ V, S V → Calls P f args V fun e w' => e = .returned v ∧ Below V.heap.size V w') :
    ∀ V, S V → Calls P f args V fun e w' => e = .returned v ∧ S w' := fun V hs => (h V hs).mono fun _ w' ⟨he, hw⟩ => ⟨he, hb V w' hs hw⟩
end Go.Proofs.YtelfdpcenplhjaaGreatDoor
namespace Go.Proofs.YtelfdpcenplhjaaGreatDoor
open Go.RowKit
section
variable {P : Program} {l : List Oper} {md : Region.Mode} {C : World → Prop} {n : Nat}
def padL (n : Nat) (l : List Oper) (L : Array Bool) : Array Bool := L ++ Array.replicate (l.length - n) false
theorem pad_lt {L : Array Bool} (hL : L.size = n) {j : Nat} (hj : j < n) (d : Bool) : (padL n l L).getD j d = L.getD j d := by
  unfold padL
  rw [Array.getD_eq_getD_getElem?, Array.getD_eq_getD_getElem?, Array.getElem?_append_left (by omega)]
theorem pad_ge {L : Array Bool} (hL : L.size = n) {j : Nat} (hj : n ≤ j) : (padL n l L).getD j false = false := by
  unfold padL
  rw [Array.getD_eq_getD_getElem?, Array.getElem?_append_right (by omega)]
  rcases Nat.lt_or_ge (j - L.size) (l.length - n) with h | h
  · simp [h]
  · rw [Array.getElem?_eq_none (by simp; omega)]; rfl
theorem pad_set {L : Array Bool} (hL : L.size = n) {j : Nat} (hj : j < n) : (padL n l L).setIfInBounds j true = padL n l (L.setIfInBounds j true) := by
  unfold padL
  rw [Array.setIfInBounds_append_left (by omega)]
theorem head_get {j : Nat} (hj : j < n) : (l.take n).toArray[j]? = l.toArray[j]? := by simp [hj]
theorem ready_head {L : Array Bool} (hL : L.size = n) {j : Nat} (hj : j < n) (h : j ∈ Region.ready md l.toArray (padL n l L)) : j ∈ Region.ready md (l.take n).toArray L := by
  rw [mem_ready] at h ⊢
  obtain ⟨h0, o, ho, hall⟩ := h
  refine ⟨by rw [← pad_lt (l := l) hL hj]; exact h0, o, (head_get hj).trans ho, fun e he hb => ?_⟩
  have h1 := hall e he hb
  rcases Nat.lt_or_ge e.on n with h2 | h2
  · rwa [pad_lt hL h2] at h1
  · rw [pad_ge hL h2] at h1; cases h1
def backB (md : Region.Mode) (l : List Oper) (n : Nat) : Bool := (List.range n).all fun j => match l[j]? with
  | some o => o.after.all fun e => !Region.binds md e || decide (e.on < j)
  | none => false
theorem some_ready {L : Array Bool} (hL : L.size = n) (hb : backB md l n = true) (hx : ∃ j, j < n ∧ L.getD j true = false) : ∃ i, i < n ∧ i ∈ Region.ready md l.toArray (padL n l L) := by
  obtain ⟨j, hj, h⟩ := hx
  induction j using Nat.strongRecOn with
  | _ j ih =>
    by_cases hy : ∃ i, i < j ∧ L.getD i true = false
    · obtain ⟨i, hi, h'⟩ := hy
      exact ih i hi (by omega) h'
    · refine ⟨j, hj, ?_⟩
      have h1 := List.all_eq_true.1 hb j (List.mem_range.2 hj)
      cases ho : l[j]? with
      | none => rw [ho] at h1; cases h1
      | some o =>
        rw [ho] at h1
        simp only at h1
        rw [mem_ready]
        refine ⟨by rw [pad_lt hL hj]; exact h, o, by simpa using ho, fun e he hbd => ?_⟩
        have h2 := (Array.all_eq_true_iff_forall_mem.1 h1) e he
        rw [hbd] at h2
        simp only [Bool.not_true, Bool.false_or, decide_eq_true_eq] at h2
        rw [pad_lt hL (by omega)]
        cases h3 : L.getD e.on false with
        | true => rfl
        | false =>
          have hlt : e.on < L.size := by omega
          exact absurd ⟨e.on, h2, by simp [hlt] at h3 ⊢; exact h3⟩ hy
theorem wanted_head {o : Oper} {t : Array Value} (hg : ∀ j b, o.guard = some (j, b) → j < n) : Region.wanted o (yielded (l.take n).toArray t) = Region.wanted o (yielded l.toArray t) := by
  unfold Region.wanted
  cases hgd : o.guard with
  | none => rfl
  | some p =>
    obtain ⟨j, b⟩ := p
    simp only
    unfold yielded
    rw [head_get (hg j b hgd)]
def guardB (l : List Oper) (n : Nat) : Bool := (List.range n).all fun j => match l[j]? with
  | some o => match o.guard with | some (i, _) => decide (i < n) | none => true
  | none => false
theorem qOp_head {i : Nat} {K : Act → Prop} {a : Act} (hi : i < n) (hg : guardB l n = true) (h : qOp P (l.take n).toArray C i K a) : qOp P l.toArray C i K a := by
  have h1 := List.all_eq_true.1 hg i (List.mem_range.2 hi)
  unfold qOp at h ⊢
  rw [head_get hi] at h
  cases ho : l[i]? with
  | none => rw [ho] at h1; cases h1
  | some o =>
    have ho' : l.toArray[i]? = some o := by simpa using ho
    rw [ho'] at h ⊢
    simp only at h ⊢
    rw [ho] at h1
    simp only at h1
    rw [wanted_head (l := l) (n := n) (fun j b hgd => by rw [hgd] at h1; simpa using h1)] at h
    exact h
theorem count_set {L : Array Bool} {i f : Nat} (hc : L.count false = f + 1) (h : L.getD i true = false) : (L.setIfInBounds i true).count false = f := by
  have hi : i < L.size := by
    rcases Nat.lt_or_ge i L.size with h' | h'
    · exact h'
    · simp [Array.getElem?_eq_none h'] at h
  have hv : L[i] = false := by simpa [hi] using h
  have := Array.count_set (a := true) (b := false) (xs := L) (i := i) hi
  rw [Array.setIfInBounds_def, dif_pos hi, this]
  simp [hv]
  omega
theorem wpAny_of_class {Q : Act → Prop} {Q' : Exit → Act → World → Prop} (g : Nat) (hs : Region.sinkB md l.toArray n = true) (hc : Region.chainB md l.toArray n = true) (hn : n < l.length) (hb : backB md l n = true) (hg : guardB l n = true)
    (hQ : ∀ a w, C w → Q a → wpAny P md l.toArray Q' g (padL n l (Array.replicate n true)) a w) :
    ∀ (f : Nat) (L : Array Bool) (a : Act) (w : World), C w → L.size = n → L.count false = f → HeadInv md l.toArray n (padL n l L) → wpAnyQ P md (l.take n).toArray C Q f L a → wpAny P md l.toArray Q' (f + g) (padL n l L) a w
  | 0, L, a, w, hw, hL, hf, _, h => by
    have e : L = Array.replicate n true := by
      apply Array.ext
      · simp [hL]
      · intro i h1 h2
        simp only [Array.getElem_replicate]
        cases hv : L[i] with
        | true => rfl
        | false =>
          have hm : false ∈ L := Array.mem_iff_getElem.2 ⟨i, h1, hv⟩
          have := Array.count_pos_iff.2 hm
          omega
    rw [Nat.zero_add, e]
    exact hQ a w hw h.2
  | f + 1, L, a, w, hw, hL, hf, inv, h => by
    have hx : ∃ j, j < n ∧ L.getD j true = false := by
      have : false ∈ L := Array.count_pos_iff.1 (by omega)
      obtain ⟨j, hj, e⟩ := Array.mem_iff_getElem.1 this
      exact ⟨j, by omega, by simp [hj, e]⟩
    obtain ⟨j, hj, hjr⟩ := some_ready hL hb hx
    obtain ⟨j0, hj0, hu⟩ := hx
    rw [show f + 1 + g = (f + g) + 1 by omega]
    refine ⟨fun h0 => (by rw [h0] at hjr; cases hjr), fun i hi => ?_⟩
    have hin : i < n := by
      rcases Nat.lt_or_ge i n with h' | h'
      · exact h'
      · exact absurd hi (tail_waits hs hc (by simpa using hn) inv _ j0 rfl hj0 (by rw [pad_lt hL hj0]; exact hu) i h')
    have hiu : L.getD i true = false := by
      have := (mem_ready.1 hi).1
      rwa [pad_lt hL hin] at this
    refine wpOp_of_qOp hw (fun a' w' hw' hk => ?_) (qOp_head hin hg (h.2 i (ready_head hL hin hi)))
    rw [pad_set hL hin]
    refine wpAny_of_class g hs hc hn hb hg hQ f _ a' w' hw' (by simp [hL]) (count_set hf hiu) ?_ hk
    rw [← pad_set hL hin]
    exact inv.set hi hin
end
def tailB (l : List Oper) (n : Nat) : Bool := Region.lexB .any (l.take n).toArray && decide (n < l.length) && Region.sinkB .any l.toArray n && Region.chainB .any l.toArray n && backB .any l n && guardB l n && Region.seqB .any l.toArray (l.length - n) n (padL n l (Array.replicate n true))
theorem region_class_tail {P : Program} {S : World → Prop} {id : Nat} {Q : Exit → Act → World → Prop} {a : Act} {w : World} {l : List Oper} (n : Nat) (hm : P.follows .mixedOrders = true) (hB : tailB l n = true) (hS : S w.drew)
    (h : wpQuiet P (l.take n).toArray (fun w' => ∃ s : Sig S, w' = s.V) (fun a' => ∀ s : Sig S, wpList P l.toArray Q (l.drop n) a' s.V) (l.take n) a) : (Code.region id l.toArray true).wp P Q a w := by
  simp only [tailB, Bool.and_eq_true, decide_eq_true_eq] at hB
  obtain ⟨⟨⟨⟨⟨⟨hlex, hn⟩, hs⟩, hc⟩, hb⟩, hg⟩, hq⟩ := hB
  have hlt : (l.take n).length = n := by simp; omega
  simp only [Region.lexB, Bool.and_eq_true] at hlex
  refine wp_region_any hm ?_
  have H := wpAnyQ_lex (C := fun w' => ∃ s : Sig S, w' = s.V) (md := .any) hlex.1 (l.take n) 0 (Array.replicate n false) a (by simp) (by have := hlex.2; simpa [hlt] using this) h
  rw [hlt] at H
  have e : padL n l (Array.replicate n false) = Array.replicate l.toArray.size false := by
    unfold padL
    rw [Array.replicate_append_replicate]
    congr 1
    simp
    omega
  have inv0 : HeadInv .any l.toArray n (padL n l (Array.replicate n false)) := by
    rw [e]
    exact ⟨by simp, fun j oj _ hl => (by rw [getD_replicate_false] at hl; cases hl), fun t _ ht => getD_in (by simpa using ht) (getD_replicate_false _ _)⟩
  have K := wpAny_of_class (Q' := Q) (l.length - n) hs hc hn hb hg (fun a' w' ⟨s, hw'⟩ hq' => by
    subst hw'
    have := wpAny_of_seq (md := .any) (Q' := Q) (l.drop n) n (padL n l (Array.replicate n true)) a' s.V (fun j => by simp [List.getElem?_drop]) (by simpa using hq) (hq' s)
    simpa using this) n _ a { w with drawn := w.drawn + 1 } ⟨⟨_, hS⟩, rfl⟩ (by simp) (by simp) inv0 H
  rw [e] at K
  have e2 : n + (l.length - n) = l.toArray.size := by simp; omega
  rwa [e2] at K
end Go.Proofs.YtelfdpcenplhjaaGreatDoor
namespace Go.Proofs.YtelfdpcenplhjaaGreatDoor
open Go.RowKit
attribute [local go_sem] Oper.semAt_some
set_option linter.unusedVariables false
set_option linter.unusedSimpArgs false
theorem region_cutG {P : Program} {id : Nat} {ops : Array Oper} {dr : Bool} {Q : Exit → Act → World → Prop} {a : Act} {w : World} (F : Nat → Act) (H : Nat → World → Prop)
    (h1 : (Code.region id ops dr).wp P (fun e a' w' => e = .normal ∧ ∃ g, a' = F g ∧ H g w') a w) (h2 : ∀ g w', H g w' → Q .normal (F g) w') : (Code.region id ops dr).wp P Q a w :=
  Code.wp_mono (fun e a' w' h => by obtain ⟨he, g, ha, hg⟩ := h; subst he ha; exact h2 _ _ hg) h1
theorem yieldsIf_blk {P : Program} {ops : Array Oper} {S : World → Prop} {o : Oper} {a : Act} (hw : Region.wanted o (yielded ops a.tmps) = true) (ty : TypeId) (x : Operand) (ho : o.op = .load ty x)
    (g : Nat) (hx : a.eval x = .pointer (some ⟨g, 0, none⟩)) (cs : Array Value) (t : TypeId) (d : TypeDesc) (hS : ∀ w, S w → Blk w g cs t)
    (hu : P.underlying ty = some d) (hd : (match d with | .struct _ | .array _ _ => true | _ => false) = true) (hi : (P.info? ty).map (·.size) = some cs.size) : YieldsIf P ops S o (.agg cs) a :=
  .inl ⟨hw, fun w hs => by
    unfold execOp
    simp only [ho, hx, Instr.loadAt, Instr.sureAddr, Sem.run_bind, Sem.run_pure, Result.andThen_ok, run_loadVar_row w g t ty cs (0, 0) d (hS w hs).blk hu hd hi]⟩
theorem wpListIn_load_row {F : Fence} {nF : Nat} {P : Program} {ops : Array Oper} {rest : List Oper} {o : Oper} {a : Act} {w : World} {Q : Exit → Act → World → Prop} (hgd : o.guard = none) (ty : TypeId) (x : Operand) (ho : o.op = .load ty x)
    (g : Nat) (hx : a.eval x = .pointer (some ⟨g, 0, none⟩)) (t : TypeId) (cs : Array Value) (fr : Nat × Nat) (d : TypeDesc) (hg : w.heap[g]? = some (.cells cs t fr))
    (hu : P.underlying ty = some d) (hd : (match d with | .struct _ | .array _ _ => true | _ => false) = true) (hi : (P.info? ty).map (·.size) = some cs.size)
    (h : wpListIn F nF P ops Q rest (a.put o.dst (.agg cs)) w) : wpListIn F nF P ops Q (o :: rest) a w := by
  refine wpListIn_plain hgd fun K hK => ?_
  have hr := run_loadVar_row (P := P) w g t ty cs fr d hg hu hd hi
  unfold Oper.wpIn
  refine ⟨by simp [Oper.about, ho], ?_⟩
  rw [Oper.semAt_plain F _ _ (by rw [ho]; intro c hc'; cases hc')]
  simp only [execOp, ho, hx, Instr.loadAt, Instr.sureAddr, Sem.run_bind, Sem.run_pure, Result.andThen_ok, hr]
  exact hK _ _ h
theorem wpListIn_store_blk {F : Fence} {nF : Nat} {P : Program} {ops : Array Oper} {rest : List Oper} {o : Oper} {a : Act} {w : World} {Q : Exit → Act → World → Prop} (hgd : o.guard = none) (ty : TypeId) (x y : Operand) (ho : o.op = .store ty x y)
    (g : Nat) (cs cs' : Array Value) (t : TypeId) (hx : a.eval x = .pointer (some ⟨g, 0, none⟩)) (hy : a.eval y = .agg cs') (hb : Blk w g cs t) (hsz : cs.size = cs'.size)
    (hi : (P.info? ty).map (·.size) = some cs'.size) (h1 : cs'.all (·.oneCell') = true) (h : ∀ w', Blk w' g cs' t → But g w w' → wpListIn F nF P ops Q rest (a.put o.dst undef) w') : wpListIn F nF P ops Q (o :: rest) a w := by
  refine wpListIn_plain hgd fun K hK => ?_
  have hs := run_storeCells_at (P := P) g 0 t cs'.toList 0 cs w hb.blk (by simp; omega) (fun v hv => (Array.all_eq_true_iff_forall_mem.1 h1) v (by simpa using hv))
  have e : (cs.toList.take (0 + 0) ++ cs'.toList ++ cs.toList.drop (0 + 0 + cs'.toList.length)).toArray = cs' := by
    rw [List.drop_eq_nil_of_le (by simp; omega)]
    simp
  rw [e] at hs
  cases hq : P.info? ty with
  | none => simp [hq] at hi
  | some i =>
    have hs' : cs'.size = i.size := by simp [hq] at hi; omega
    have hrun : (storeVar ty ⟨g, 0, none⟩ (.agg cs')).run P w = .ok () (w.setRow g cs') := by simp [storeVar, sizeOf, typeInfo, hq, Value.cells, hs', hs]
    unfold Oper.wpIn
    refine ⟨by simp [Oper.about, ho], ?_⟩
    rw [Oper.semAt_plain F _ _ (by rw [ho]; intro c hc'; cases hc')]
    simp only [execOp, ho, hx, hy, Instr.storeAt, Instr.sureAddr, Sem.run_bind, Sem.run_pure, Result.andThen_ok, hrun]
    have q := setRow_blk (cs' := cs') hb
    exact hK _ _ (h _ q.1 q.2)
theorem class_load_mid {P : Program} {ops : Array Oper} {S : World → Prop} {Q : Act → Prop} {a : Act} {o : Oper} {rest : List Oper} (hw : Region.wanted o (yielded ops a.tmps) = true) (ty : TypeId) (x : Operand) (ho : o.op = .load ty x)
    (g off : Nat) (hx : a.eval x = .pointer (some ⟨g, off, none⟩)) (cs : List Value) (d : TypeDesc) (hS : ∀ w, S w → w.rangeAt g off cs)
    (hu : P.underlying ty = some d) (hd : d.isRow = true) (hi : (P.info? ty).map (·.size) = some cs.length)
    (h : wpQuiet P ops (fun w' => ∃ s : Sig S, w' = s.V) Q rest (a.put o.dst (.agg cs.toArray))) : wpQuiet P ops (fun w' => ∃ s : Sig S, w' = s.V) Q (o :: rest) a :=
  wpQuiet_step fun K hK => by
    rw [if_pos hw]
    refine ⟨.agg cs.toArray, ?_, hK _ h⟩
    rintro w ⟨s, rfl⟩
    unfold Oper.quietAt execOp
    simp only [ho, hx, Instr.loadAt, Instr.sureAddr, Sem.run_bind, Sem.run_pure, Result.andThen_ok, run_loadVar_mid s.V g off ty cs d (hS s.V s.h) hu hd hi]
    exact ⟨rfl, rfl⟩
end Go.Proofs.YtelfdpcenplhjaaGreatDoor
namespace Go.Proofs.YtelfdpcenplhjaaGreatDoor
open Go.RowKit
set_option linter.unusedVariables false
section
variable {l n : Nat} {P : Program}
theorem wpIn_round_op {o : Oper} {a : Act} {w : World} {K : Act → World → Prop} {Q : Exit → Act → World → Prop} (hd : ∀ c, o.op ≠ .defer c) (h : o.wp P a w K Q) : o.wpIn (Fence.wide.inRound l) n P a w K Q := by
  refine ⟨fun _ _ => trivial, ?_⟩
  rw [Oper.semAt_plain _ _ _ hd]
  unfold Oper.wp at h
  cases hr : (execOp a.eval o).run P w with
  | ok nx w' =>
    rw [hr] at h
    cases nx with
    | value v => exact h
    | skip => exact h
    | defer d => exact h
    | enter f args => exact ⟨fun e => (by cases e), callsIn_wide.2 h⟩
    | row r args => exact ⟨fun e => (by cases e), fun c cs _ => let ⟨v, w'', r, s⟩ := h c cs; ⟨v, w'', r, stepsIn_wide.2 s⟩⟩
    | _ => exact h.elim
  | halt x w' =>
    rw [hr] at h
    cases x <;> exact h
def plainOps (ops : Array Oper) : Bool := ops.all fun o => match o.op with | .defer _ => false | _ => true
theorem wpOpIn_round {ops : Array Oper} {i : Nat} {K : Act → World → Prop} {Q : Exit → Act → World → Prop} {a : Act} {w : World} (hp : plainOps ops = true) (hQ : ¬ LetsOut Q) (h : wpOp P ops Q i K a w) : wpOpIn (Fence.wide.inRound l) n P ops Q i K a w := by
  unfold wpOp at h
  unfold wpOpIn
  cases ho : ops[i]? with
  | none => rw [ho] at h; exact h
  | some o =>
    rw [ho] at h
    simp only at h ⊢
    by_cases hw : Region.wanted o (yielded ops a.tmps) = true
    · rw [if_pos hw] at h ⊢
      refine wpIn_round_op (fun c e => ?_) (h.resolve_right fun h' => hQ h'.2)
      have := (Array.all_eq_true_iff_forall_mem.1 hp) o (Array.mem_of_getElem? ho)
      rw [e] at this
      cases this
    · rw [if_neg hw] at h ⊢
      exact ⟨fun _ _ => trivial, h⟩
theorem wpAnyIn_round {md : Region.Mode} {ops : Array Oper} {Q : Exit → Act → World → Prop} (hp : plainOps ops = true) (hQ : ¬ LetsOut Q) : ∀ (fuel : Nat) (L : Array Bool) (a : Act) (w : World), wpAny P md ops Q fuel L a w → wpAnyIn (Fence.wide.inRound l) n P md ops Q fuel L a w
  | 0, _, _, _, h => h
  | fuel + 1, L, a, w, h => ⟨h.1, fun i hi => wpOpIn_mono (fun a' w' h' => wpAnyIn_round hp hQ fuel _ a' w' h') (wpOpIn_round hp hQ (h.2 i hi))⟩
end
theorem any_class_tail {P : Program} {S : World → Prop} {Q : Exit → Act → World → Prop} {a : Act} {w : World} {l : List Oper} (n : Nat) (hB : tailB l n = true) (hS : S w.drew)
    (h : wpQuiet P (l.take n).toArray (fun w' => ∃ s : Sig S, w' = s.V) (fun a' => ∀ s : Sig S, wpList P l.toArray Q (l.drop n) a' s.V) (l.take n) a) : wpAny P .any l.toArray Q l.toArray.size (Array.replicate l.toArray.size false) a { w with drawn := w.drawn + 1 } := by
  simp only [tailB, Bool.and_eq_true, decide_eq_true_eq] at hB
  obtain ⟨⟨⟨⟨⟨⟨hlex, hn⟩, hs⟩, hc⟩, hb⟩, hg⟩, hq⟩ := hB
  have hlt : (l.take n).length = n := by simp; omega
  simp only [Region.lexB, Bool.and_eq_true] at hlex
  have H := wpAnyQ_lex (C := fun w' => ∃ s : Sig S, w' = s.V) (md := .any) hlex.1 (l.take n) 0 (Array.replicate n false) a (by simp) (by have := hlex.2; simpa [hlt] using this) h
  rw [hlt] at H
  have e : padL n l (Array.replicate n false) = Array.replicate l.toArray.size false := by
    unfold padL
    rw [Array.replicate_append_replicate]
    congr 1
    simp
    omega
  have inv0 : HeadInv .any l.toArray n (padL n l (Array.replicate n false)) := by
    rw [e]
    exact ⟨by simp, fun j oj _ hl => (by rw [getD_replicate_false] at hl; cases hl), fun t _ ht => getD_in (by simpa using ht) (getD_replicate_false _ _)⟩
  have K := wpAny_of_class (Q' := Q) (l.length - n) hs hc hn hb hg (fun a' w' ⟨s, hw'⟩ hq' => by
    subst hw'
    have := wpAny_of_seq (md := .any) (Q' := Q) (l.drop n) n (padL n l (Array.replicate n true)) a' s.V (fun j => by simp [List.getElem?_drop]) (by simpa using hq) (hq' s)
    simpa using this) n _ a { w with drawn := w.drawn + 1 } ⟨⟨_, hS⟩, rfl⟩ (by simp) (by simp) inv0 H
  rw [e] at K
  have e2 : n + (l.length - n) = l.toArray.size := by simp; omega
  rwa [e2] at K
theorem region_class_tail_in {P : Program} {S : World → Prop} {id r k : Nat} {Q : Exit → Act → World → Prop} {a : Act} {w : World} {l : List Oper} (n : Nat) (hm : P.follows .mixedOrders = true) (hp : plainOps l.toArray = true) (hQ : ¬ LetsOut Q) (hB : tailB l n = true) (hS : S w.drew)
    (h : wpQuiet P (l.take n).toArray (fun w' => ∃ s : Sig S, w' = s.V) (fun a' => ∀ s : Sig S, wpList P l.toArray Q (l.drop n) a' s.V) (l.take n) a) : (Code.region id l.toArray true).wpIn (Fence.wide.inRound r) k P Q a w :=
  wpIn_region_any hm (wpAnyIn_round hp hQ _ _ _ _ (any_class_tail n hB hS h))
def mkD (d : Nat) : Deferred := { target := .collected d, args := #[] }
structure SaveD (ds : List Nat) (W W' : World) : Prop where
  os : W'.os = W.os
  tape : W'.tape = W.tape
  output : W'.output = W.output
  size : W'.heap.size = W.heap.size
  block : ∀ k, k ∉ ds → W'.heap[k]? = W.heap[k]?
theorem SaveD.below {ds : List Nat} {W W' : World} {B : Nat} (h : SaveD ds W W') (hd : ∀ d ∈ ds, B ≤ d) : Below B W W' :=
  ⟨h.os, h.tape, h.output, by rw [h.size]; exact Nat.le_refl _, fun k hk => h.block k (fun hm => by have := hd k hm; omega)⟩
theorem SaveD.blk {ds : List Nat} {W W' : World} {g : Nat} {cs : Array Value} {t : TypeId} (h : SaveD ds W W') (k : Blk W g cs t) (hg : g ∉ ds) : Blk W' g cs t := ⟨(h.block g hg).trans k.blk⟩
theorem leaves_marks {P : Program} {F : Fence} {n : Nat} {fn : Func} {tmps : Array Value} {R : Ending → World → Prop} : ∀ (ds : List Nat) (W : World), ds.Nodup → (∀ d ∈ ds, W.heap[d]? = some (.deferred (some []))) →
    (∀ W', SaveD ds W W' → LeavesIn F n P fn tmps R [] .returning W') → LeavesInM F n P fn tmps R (ds.map mkD) .returning W
  | [], W, _, _, h => h W ⟨rfl, rfl, rfl, rfl, fun _ _ => rfl⟩
  | d :: ds, W, hn, hd, h => by
    obtain ⟨h1, h2⟩ := List.nodup_cons.1 hn
    have hk := hd d (by simp)
    refine ⟨by simp, .inl ⟨d, _, rfl, run_takeDeferred hk, leaves_marks ds _ h2 (fun e he => ?_) fun W' hs => h W' ?_⟩⟩
    · exact (World.putObj_heap_other (by rintro rfl; exact h1 he)).trans (hd e (by simp [he]))
    · refine ⟨hs.os, hs.tape, hs.output, hs.size.trans (by simp [World.putObj]), fun k hk => ?_⟩
      simp only [List.mem_cons, not_or] at hk
      exact (hs.block k hk.2).trans (World.putObj_heap_other hk.1)
end Go.Proofs.YtelfdpcenplhjaaGreatDoor
namespace Go.Proofs.YtelfdpcenplhjaaGreatDoor
open Go.RowKit
def oneL (left : Int) (q : Ins) : Int :=
  if rowC q.1 = none then 141
  else if q.1 = 32 ∧ (q.2.2.2 % 4 ≠ 0 ∨ 64 ≤ q.2.2.2) then 142
  else if q.1 = 52 ∧ q.2.2.2 = 0 then 143
  else if (q.1 = 100 ∨ q.1 = 116) ∧ 32 ≤ q.2.2.2 then 144
  else if formOf q.1 = 3 then (if 16 ≤ q.2.2.2 then 145 else 0)
  else if formOf q.1 = 4 then (if left ≤ q.2.2.2 then 146 else 0)
  else if formOf q.1 = 5 ∨ formOf q.1 = 6 then (if left ≤ q.2.1 ∨ left ≤ q.2.2.1 then 146 else 0)
  else 0
def retI (q : Ins) : Bool := decide (q.1 = 6 ∨ q.1 = 22)
def oneAt (f : Nat → Ins) (n i : Nat) : Int := oneL ((n : Int) - 1 - i) (f i)
def badAt (f : Nat → Ins) (n : Nat) : Option Nat := (List.range n).find? fun i => oneAt f n i != 0
def chkI (f : Nat → Ins) (n : Nat) : Int × Int :=
  if n < 1 ∨ 64 < n then (0, 140)
  else match badAt f n with
    | some i => (i, oneAt f n i)
    | none => if retI (f (n - 1)) then (0, 0) else ((n : Int) - 1, 147)
def nextL (q : Ins) (i : Nat) : List Nat :=
  if 255 < i ∨ formOf q.1 = -1 ∨ retI q = true ∨ (formOf q.1 = 4 ∧ 255 < q.2.2.2) then []
  else if formOf q.1 = 4 then [i + 1 + q.2.2.2.toNat]
  else if formOf q.1 = 5 ∨ formOf q.1 = 6 then
    (if q.2.1 = q.2.2.1 then [i + 1 + q.2.1.toNat] else if q.2.1 < q.2.2.1 then [i + 1 + q.2.1.toNat, i + 1 + q.2.2.1.toNat] else [i + 1 + q.2.2.1.toNat, i + 1 + q.2.1.toNat])
  else [i + 1]
theorem oneL_ok {left : Int} {q : Ins} (h : oneL left q = 0) : rowC q.1 ≠ none ∧ (formOf q.1 = 3 → q.2.2.2 < 16) ∧ (formOf q.1 = 4 → q.2.2.2 < left) ∧ (formOf q.1 = 5 ∨ formOf q.1 = 6 → q.2.1 < left ∧ q.2.2.1 < left) := by
  unfold oneL at h
  by_cases h1 : rowC q.1 = none
  · rw [if_pos h1] at h; omega
  · rw [if_neg h1] at h
    by_cases h2 : q.1 = 32 ∧ (q.2.2.2 % 4 ≠ 0 ∨ 64 ≤ q.2.2.2)
    · rw [if_pos h2] at h; omega
    · rw [if_neg h2] at h
      by_cases h3 : q.1 = 52 ∧ q.2.2.2 = 0
      · rw [if_pos h3] at h; omega
      · rw [if_neg h3] at h
        by_cases h4 : (q.1 = 100 ∨ q.1 = 116) ∧ 32 ≤ q.2.2.2
        · rw [if_pos h4] at h; omega
        · rw [if_neg h4] at h
          by_cases h5 : formOf q.1 = 3
          · rw [if_pos h5] at h
            refine ⟨h1, fun _ => ?_, fun hh => by omega, fun hh => by omega⟩
            split at h <;> omega
          · rw [if_neg h5] at h
            by_cases h6 : formOf q.1 = 4
            · rw [if_pos h6] at h
              refine ⟨h1, fun hh => absurd hh h5, fun _ => ?_, fun hh => by omega⟩
              split at h <;> omega
            · rw [if_neg h6] at h
              by_cases h7 : formOf q.1 = 5 ∨ formOf q.1 = 6
              · rw [if_pos h7] at h
                refine ⟨h1, fun hh => absurd hh h5, fun hh => absurd hh h6, fun _ => ?_⟩
                split at h
                · omega
                · rename_i h8; omega
              · exact ⟨h1, fun hh => absurd hh h5, fun hh => absurd hh h6, fun hh => absurd hh h7⟩
theorem form_row {c : Int} (h : rowC c ≠ none) : formOf c ≠ -1 := by
  unfold formOf
  cases hr : rowC c with
  | none => exact absurd hr h
  | some i =>
    have hi := List.mem_of_find?_eq_some hr
    have hall : ((List.range 41).all fun i => decide (0 ≤ kF i)) = true := by decide
    have := List.all_eq_true.1 hall i hi
    simp only [decide_eq_true_eq] at this
    simp only
    omega
theorem next_in {f : Nat → Ins} {n i : Nat} (hq : insO (f i)) (h : oneAt f n i = 0) (hr : retI (f i) = false) (hl : i + 1 < n) (hn : n ≤ 255) : nextL (f i) i ≠ [] ∧ ∀ p ∈ nextL (f i) i, i < p ∧ p < n := by
  obtain ⟨h1, _, h4, h5⟩ := oneL_ok h
  have hf := form_row h1
  obtain ⟨_, _, a0, _, b0, _, k0, _⟩ := hq
  unfold nextL
  have hc : ¬ (255 < i ∨ formOf (f i).1 = -1 ∨ retI (f i) = true ∨ (formOf (f i).1 = 4 ∧ 255 < (f i).2.2.2)) := by
    rintro (h | h | h | ⟨h, hh⟩)
    · omega
    · exact hf h
    · rw [hr] at h; cases h
    · have := h4 h; omega
  rw [if_neg hc]
  by_cases h6 : formOf (f i).1 = 4
  · have := h4 h6
    rw [if_pos h6]
    refine ⟨by simp, fun p hp => ?_⟩
    simp only [List.mem_singleton] at hp
    omega
  · rw [if_neg h6]
    by_cases h7 : formOf (f i).1 = 5 ∨ formOf (f i).1 = 6
    · obtain ⟨h8, h9⟩ := h5 h7
      rw [if_pos h7]
      split
      · refine ⟨by simp, fun p hp => ?_⟩
        simp only [List.mem_singleton] at hp
        omega
      · split
        · refine ⟨by simp, fun p hp => ?_⟩
          simp only [List.mem_cons, List.not_mem_nil, or_false] at hp
          rcases hp with rfl | rfl <;> omega
        · refine ⟨by simp, fun p hp => ?_⟩
          simp only [List.mem_cons, List.not_mem_nil, or_false] at hp
          rcases hp with rfl | rfl <;> omega
    · rw [if_neg h7]
      refine ⟨by simp, fun p hp => ?_⟩
      simp only [List.mem_singleton] at hp
      omega
theorem find_none' {p : Nat → Bool} {n : Nat} : (List.range n).find? p = none ↔ ∀ i, i < n → p i = false := by
  rw [List.find?_eq_none]
  simp
theorem find_some' {p : Nat → Bool} {n i : Nat} : (List.range n).find? p = some i ↔ i < n ∧ p i = true ∧ ∀ j, j < i → p j = false := by
  induction n with
  | zero => simp
  | succ n ih =>
    rw [List.range_succ, List.find?_append]
    cases h : (List.range n).find? p with
    | some a =>
      have ha := ih.1
      rw [h] at ih
      simp only [Option.some_or, Option.some.injEq]
      constructor
      · rintro rfl
        obtain ⟨h1, h2, h3⟩ := ih.1 rfl
        exact ⟨by omega, h2, h3⟩
      · rintro ⟨h1, h2, h3⟩
        have hn := List.find?_some h
        have hm : a < n := by simpa using List.mem_of_find?_eq_some h
        rcases Nat.lt_trichotomy a i with hlt | heq | hgt
        · rw [h3 a hlt] at hn; cases hn
        · exact heq
        · have := ih.2 ⟨by omega, h2, h3⟩
          simpa using this
    | none =>
      have hno := find_none'.1 h
      simp only [Option.none_or, List.find?_cons, List.find?_nil]
      cases hp : p n with
      | true =>
        simp only [Option.some.injEq]
        constructor
        · rintro rfl; exact ⟨by omega, hp, hno⟩
        · rintro ⟨h1, h2, h3⟩
          rcases Nat.lt_or_ge i n with hlt | hge
          · rw [hno i hlt] at h2; cases h2
          · omega
      | false =>
        constructor
        · intro hh; cases hh
        · rintro ⟨h1, h2, _⟩
          rcases Nat.lt_or_ge i n with hlt | hge
          · rw [hno i hlt] at h2; cases h2
          · obtain rfl : i = n := by omega
            rw [hp] at h2; cases h2
structure May (f : Nat → Ins) (n : Nat) : Prop where
  lo : 1 ≤ n
  hi : n ≤ 64
  one : ∀ i, i < n → oneAt f n i = 0
  ret : retI (f (n - 1)) = true
theorem chk_may {f : Nat → Ins} {n : Nat} (h : May f n) : chkI f n = (0, 0) := by
  have hb : badAt f n = none := find_none'.2 fun i hi => by simp [h.one i hi]
  unfold chkI
  rw [if_neg (by have := h.lo; have := h.hi; omega), hb]
  simp [h.ret]
theorem may_chk {f : Nat → Ins} {n : Nat} (h : (chkI f n).2 = 0) : May f n := by
  unfold chkI at h
  by_cases hs : n < 1 ∨ 64 < n
  · rw [if_pos hs] at h; cases h
  · rw [if_neg hs] at h
    cases hb : badAt f n with
    | some i =>
      rw [hb] at h
      have := find_some'.1 hb
      simp only at h
      rw [h] at this
      simp at this
    | none =>
      rw [hb] at h
      simp only at h
      have hn := find_none'.1 hb
      cases hr : retI (f (n - 1)) with
      | false => rw [hr] at h; simp at h
      | true => exact ⟨by omega, by omega, fun i hi => by simpa using hn i hi, hr⟩
theorem chk_bad {f : Nat → Ins} {n i : Nat} (h1 : 1 ≤ n) (h2 : n ≤ 64) (hi : i < n) (hb : oneAt f n i ≠ 0) (hp : ∀ j, j < i → oneAt f n j = 0) : chkI f n = ((i : Int), oneAt f n i) := by
  have : badAt f n = some i := find_some'.2 ⟨hi, by simpa using hb, fun j hj => by simp [hp j hj]⟩
  unfold chkI
  rw [if_neg (by omega), this]
theorem chk_last {f : Nat → Ins} {n : Nat} (h1 : 1 ≤ n) (h2 : n ≤ 64) (hp : ∀ j, j < n → oneAt f n j = 0) (hr : retI (f (n - 1)) = false) : chkI f n = ((n : Int) - 1, 147) := by
  have : badAt f n = none := find_none'.2 fun i hi => by simp [hp i hi]
  unfold chkI
  rw [if_neg (by omega), this]
  simp [hr]
theorem chk_size {f : Nat → Ins} {n : Nat} (h : n < 1 ∨ 64 < n) : chkI f n = (0, 140) := by unfold chkI; rw [if_pos h]
def ahead (x : Ins) (f : Nat → Ins) : Nat → Ins
  | 0 => x
  | i + 1 => f i
end Go.Proofs.YtelfdpcenplhjaaGreatDoor
namespace Go.Proofs.YtelfdpcenplhjaaGreatDoor
open Go.RowKit
structure Goes (f : Nat → Ins) (n : Nat) : Prop where
  ok : ∀ i, i < n → ∀ p ∈ nextL (f i) i, i < p ∧ p < n
  go : ∀ i, i < n → retI (f i) = false → nextL (f i) i ≠ []
  pos : 1 ≤ n
theorem next_ret {q : Ins} {i : Nat} (h : retI q = true) : nextL q i = [] := by
  unfold nextL
  rw [if_pos (.inr (.inr (.inl h)))]
theorem may_goes {f : Nat → Ins} {n : Nat} (h : May f n) (ho : ∀ i, i < n → insO (f i)) : Goes f n := by
  have key : ∀ i, i < n → retI (f i) = false → nextL (f i) i ≠ [] ∧ ∀ p ∈ nextL (f i) i, i < p ∧ p < n := fun i hi hr => by
    refine next_in (ho i hi) (h.one i hi) hr ?_ (by have := h.hi; omega)
    rcases Nat.lt_or_ge (i + 1) n with h1 | h1
    · exact h1
    · obtain rfl : i = n - 1 := by omega
      rw [h.ret] at hr; cases hr
  refine ⟨fun i hi p hp => ?_, fun i hi hr => (key i hi hr).1, h.lo⟩
  cases hr : retI (f i) with
  | true => rw [next_ret hr] at hp; cases hp
  | false => exact (key i hi hr).2 p hp
end Go.Proofs.YtelfdpcenplhjaaGreatDoor
namespace Go.Proofs.YtelfdpcenplhjaaGreatDoor
open Go.RowKit
theorem rowC_some {c : Int} {i : Nat} (h : rowC c = some i) : i < 41 ∧ kC i = c := by
  have h1 := List.mem_of_find?_eq_some h
  have h2 := List.find?_some h
  simp at h1 h2
  exact ⟨h1, h2⟩
end Go.Proofs.YtelfdpcenplhjaaGreatDoor
