/-
  A statement that draws its order, whose last operations wait for all the others: the others walked once over a class of worlds, the last ones one behind the other, in whatever world of the class.
-/
import Derived.Test.YtfohifnbohdbcaaClassL
import Derived.StillTail
import Derived.Deep.Quiet
namespace Go.Proofs.Ytfohifnbohdbcaa
open Go.RowKit

section
variable {P : Program} {l : List Oper} {md : Region.Mode} {C : World → Prop} {n : Nat}
/-- Which have come up: of the head, and none of the others. -/
def padL (n : Nat) (l : List Oper) (L : Array Bool) : Array Bool := L ++ Array.replicate (l.length - n) false
theorem pad_lt {L : Array Bool} (hL : L.size = n) {j : Nat} (hj : j < n) (d : Bool) : (padL n l L).getD j d = L.getD j d := by
  unfold padL
  rw [Array.getD_eq_getD_getElem?, Array.getD_eq_getD_getElem?, Array.getElem?_append_left (by omega)]
theorem pad_ge {L : Array Bool} (hL : L.size = n) {j : Nat} (hj : n ≤ j) : (padL n l L).getD j false = false := by
  unfold padL
  rw [Array.getD_eq_getD_getElem?, Array.getElem?_append_right (by omega)]
  rcases Nat.lt_or_ge (j - L.size) (l.length - n) with h | h
  · simp [h]
  · rw [Array.getElem?_eq_none (by simp; omega)]; rfl
theorem pad_set {L : Array Bool} (hL : L.size = n) {j : Nat} (hj : j < n) : (padL n l L).setIfInBounds j true = padL n l (L.setIfInBounds j true) := by
  unfold padL
  rw [Array.setIfInBounds_append_left (by omega)]
theorem head_get {j : Nat} (hj : j < n) : (l.take n).toArray[j]? = l.toArray[j]? := by simp [hj]
theorem ready_head {L : Array Bool} (hL : L.size = n) {j : Nat} (hj : j < n) (h : j ∈ Region.ready md l.toArray (padL n l L)) : j ∈ Region.ready md (l.take n).toArray L := by
  rw [mem_ready] at h ⊢
  obtain ⟨h0, o, ho, hall⟩ := h
  refine ⟨by rw [← pad_lt (l := l) hL hj]; exact h0, o, (head_get hj).trans ho, fun e he hb => ?_⟩
  have h1 := hall e he hb
  rcases Nat.lt_or_ge e.on n with h2 | h2
  · rwa [pad_lt hL h2] at h1
  · rw [pad_ge hL h2] at h1; cases h1
/-- Each waits for such alone as stand ahead of it. -/
def backB (md : Region.Mode) (l : List Oper) (n : Nat) : Bool := (List.range n).all fun j => match l[j]? with
  | some o => o.after.all fun e => !Region.binds md e || decide (e.on < j)
  | none => false
theorem some_ready {L : Array Bool} (hL : L.size = n) (hb : backB md l n = true) (hx : ∃ j, j < n ∧ L.getD j true = false) : ∃ i, i < n ∧ i ∈ Region.ready md l.toArray (padL n l L) := by
  obtain ⟨j, hj, h⟩ := hx
  induction j using Nat.strongRecOn with
  | _ j ih =>
    by_cases hy : ∃ i, i < j ∧ L.getD i true = false
    · obtain ⟨i, hi, h'⟩ := hy
      exact ih i hi (by omega) h'
    · refine ⟨j, hj, ?_⟩
      have h1 := List.all_eq_true.1 hb j (List.mem_range.2 hj)
      cases ho : l[j]? with
      | none => rw [ho] at h1; cases h1
      | some o =>
        rw [ho] at h1
        simp only at h1
        rw [mem_ready]
        refine ⟨by rw [pad_lt hL hj]; exact h, o, by simpa using ho, fun e he hbd => ?_⟩
        have h2 := (Array.all_eq_true_iff_forall_mem.1 h1) e he
        rw [hbd] at h2
        simp only [Bool.not_true, Bool.false_or, decide_eq_true_eq] at h2
        rw [pad_lt hL (by omega)]
        cases h3 : L.getD e.on false with
        | true => rfl
        | false =>
          have hlt : e.on < L.size := by omega
          exact absurd ⟨e.on, h2, by simp [hlt] at h3 ⊢; exact h3⟩ hy
theorem wanted_head {o : Oper} {t : Array Value} (hg : ∀ j b, o.guard = some (j, b) → j < n) : Region.wanted o (yielded (l.take n).toArray t) = Region.wanted o (yielded l.toArray t) := by
  unfold Region.wanted
  cases hgd : o.guard with
  | none => rfl
  | some p =>
    obtain ⟨j, b⟩ := p
    simp only
    unfold yielded
    rw [head_get (hg j b hgd)]
/-- Each is guarded by such alone as stand in the head. -/
def guardB (l : List Oper) (n : Nat) : Bool := (List.range n).all fun j => match l[j]? with
  | some o => match o.guard with | some (i, _) => decide (i < n) | none => true
  | none => false
theorem qOp_head {i : Nat} {K : Act → Prop} {a : Act} (hi : i < n) (hg : guardB l n = true) (h : qOp P (l.take n).toArray C i K a) : qOp P l.toArray C i K a := by
  have h1 := List.all_eq_true.1 hg i (List.mem_range.2 hi)
  unfold qOp at h ⊢
  rw [head_get hi] at h
  cases ho : l[i]? with
  | none => rw [ho] at h1; cases h1
  | some o =>
    have ho' : l.toArray[i]? = some o := by simpa using ho
    rw [ho'] at h ⊢
    simp only at h ⊢
    rw [ho] at h1
    simp only at h1
    rw [wanted_head (l := l) (n := n) (fun j b hgd => by rw [hgd] at h1; simpa using h1)] at h
    exact h
theorem count_set {L : Array Bool} {i f : Nat} (hc : L.count false = f + 1) (h : L.getD i true = false) : (L.setIfInBounds i true).count false = f := by
  have hi : i < L.size := by
    rcases Nat.lt_or_ge i L.size with h' | h'
    · exact h'
    · simp [Array.getElem?_eq_none h'] at h
  have hv : L[i] = false := by simpa [hi] using h
  have := Array.count_set (a := true) (b := false) (xs := L) (i := i) hi
  rw [Array.setIfInBounds_def, dif_pos hi, this]
  simp [hv]
  omega
theorem wpAny_of_class {Q : Act → Prop} {Q' : Exit → Act → World → Prop} (g : Nat) (hs : Region.sinkB md l.toArray n = true) (hc : Region.chainB md l.toArray n = true) (hn : n < l.length) (hb : backB md l n = true) (hg : guardB l n = true)
    (hQ : ∀ a w, C w → Q a → wpAny P md l.toArray Q' g (padL n l (Array.replicate n true)) a w) :
    ∀ (f : Nat) (L : Array Bool) (a : Act) (w : World), C w → L.size = n → L.count false = f → HeadInv md l.toArray n (padL n l L) → wpAnyQ P md (l.take n).toArray C Q f L a → wpAny P md l.toArray Q' (f + g) (padL n l L) a w
  | 0, L, a, w, hw, hL, hf, _, h => by
    have e : L = Array.replicate n true := by
      apply Array.ext
      · simp [hL]
      · intro i h1 h2
        simp only [Array.getElem_replicate]
        cases hv : L[i] with
        | true => rfl
        | false =>
          have hm : false ∈ L := Array.mem_iff_getElem.2 ⟨i, h1, hv⟩
          have := Array.count_pos_iff.2 hm
          omega
    rw [Nat.zero_add, e]
    exact hQ a w hw h.2
  | f + 1, L, a, w, hw, hL, hf, inv, h => by
    have hx : ∃ j, j < n ∧ L.getD j true = false := by
      have : false ∈ L := Array.count_pos_iff.1 (by omega)
      obtain ⟨j, hj, e⟩ := Array.mem_iff_getElem.1 this
      exact ⟨j, by omega, by simp [hj, e]⟩
    obtain ⟨j, hj, hjr⟩ := some_ready hL hb hx
    obtain ⟨j0, hj0, hu⟩ := hx
    rw [show f + 1 + g = (f + g) + 1 by omega]
    refine ⟨fun h0 => (by rw [h0] at hjr; cases hjr), fun i hi => ?_⟩
    have hin : i < n := by
      rcases Nat.lt_or_ge i n with h' | h'
      · exact h'
      · exact absurd hi (tail_waits hs hc (by simpa using hn) inv _ j0 rfl hj0 (by rw [pad_lt hL hj0]; exact hu) i h')
    have hiu : L.getD i true = false := by
      have := (mem_ready.1 hi).1
      rwa [pad_lt hL hin] at this
    refine wpOp_of_qOp hw (fun a' w' hw' hk => ?_) (qOp_head hin hg (h.2 i (ready_head hL hin hi)))
    rw [pad_set hL hin]
    refine wpAny_of_class g hs hc hn hb hg hQ f _ a' w' hw' (by simp [hL]) (count_set hf hiu) ?_ hk
    rw [← pad_set hL hin]
    exact inv.set hi hin
end

/-- All that is asked of the shape. -/
def tailB (l : List Oper) (n : Nat) : Bool := Region.lexB .any (l.take n).toArray && decide (n < l.length) && Region.sinkB .any l.toArray n && Region.chainB .any l.toArray n && backB .any l n && guardB l n && Region.seqB .any l.toArray (l.length - n) n (padL n l (Array.replicate n true))
theorem region_class_tail {P : Program} {S : World → Prop} {id : Nat} {Q : Exit → Act → World → Prop} {a : Act} {w : World} {l : List Oper} (n : Nat) (hm : P.follows .mixedOrders = true) (hB : tailB l n = true) (hS : S w.drew)
    (h : wpQuiet P (l.take n).toArray (fun w' => ∃ s : Sig S, w' = s.V) (fun a' => ∀ s : Sig S, wpList P l.toArray Q (l.drop n) a' s.V) (l.take n) a) : (Code.region id l.toArray true).wp P Q a w := by
  simp only [tailB, Bool.and_eq_true, decide_eq_true_eq] at hB
  obtain ⟨⟨⟨⟨⟨⟨hlex, hn⟩, hs⟩, hc⟩, hb⟩, hg⟩, hq⟩ := hB
  have hlt : (l.take n).length = n := by simp; omega
  simp only [Region.lexB, Bool.and_eq_true] at hlex
  refine wp_region_any hm ?_
  have H := wpAnyQ_lex (C := fun w' => ∃ s : Sig S, w' = s.V) (md := .any) hlex.1 (l.take n) 0 (Array.replicate n false) a (by simp) (by have := hlex.2; simpa [hlt] using this) h
  rw [hlt] at H
  have e : padL n l (Array.replicate n false) = Array.replicate l.toArray.size false := by
    unfold padL
    rw [Array.replicate_append_replicate]
    congr 1
    simp
    omega
  have inv0 : HeadInv .any l.toArray n (padL n l (Array.replicate n false)) := by
    rw [e]
    exact ⟨by simp, fun j oj _ hl => (by rw [getD_replicate_false] at hl; cases hl), fun t _ ht => getD_in (by simpa using ht) (getD_replicate_false _ _)⟩
  have K := wpAny_of_class (Q' := Q) (l.length - n) hs hc hn hb hg (fun a' w' ⟨s, hw'⟩ hq' => by
    subst hw'
    have := wpAny_of_seq (md := .any) (Q' := Q) (l.drop n) n (padL n l (Array.replicate n true)) a' s.V (fun j => by simp [List.getElem?_drop]) (by simpa using hq) (hq' s)
    simpa using this) n _ a { w with drawn := w.drawn + 1 } ⟨⟨_, hS⟩, rfl⟩ (by simp) (by simp) inv0 H
  rw [e] at K
  have e2 : n + (l.length - n) = l.toArray.size := by simp; omega
  rwa [e2] at K
end Go.Proofs.Ytfohifnbohdbcaa
