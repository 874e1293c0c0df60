/-
  Programs and their texts lead back to one another: in plain lists.
-/
import Derived.Test.YtceeinljakcdkaaDoorAsmRt
namespace Go.Proofs.YtceeinljakcdkaaDoor
open Go.RowKit

def lnB (q : Ins) : List UInt8 := lineB q ++ [10]
def rowF (f : Nat → Ins) (n : Nat) : List Ins := (List.range n).map f
theorem rowF_succ (f : Nat → Ins) (n : Nat) : rowF f (n + 1) = rowF f n ++ [f n] := by simp [rowF, List.range_succ]
theorem rowF_len (f : Nat → Ins) (n : Nat) : (rowF f n).length = n := by simp [rowF]
def textF (f : Nat → Ins) (n : Nat) : List UInt8 := ((rowF f n).map lnB).flatten
theorem textF_succ (f : Nat → Ins) (n : Nat) : textF f (n + 1) = textF f n ++ lnB (f n) := by simp [textF, rowF_succ]
theorem prL_text {f : Nat → Ins} : ∀ {n : Nat} {t : List UInt8}, prL f n = some t → t.length ≤ 8192 → (∀ k, k < n → hasL (f k) = true) ∧ t = textF f n := by
  intro n
  induction n with
  | zero =>
    intro t h _
    simp only [prL, Option.some.injEq] at h
    subst h
    exact ⟨fun k hk => absurd hk (by omega), rfl⟩
  | succ n ih =>
    intro t h ht
    simp only [prL] at h
    cases h0 : prL f n with
    | none => rw [h0] at h; cases h
    | some t0 =>
      rw [h0] at h
      simp only at h
      split at h
      · rename_i hh
        simp only [Option.some.injEq] at h
        split at h
        · rename_i h8
          subst h
          obtain ⟨i1, i2⟩ := ih h0 h8
          refine ⟨fun k hk => ?_, by rw [textF_succ, ← i2]; rfl⟩
          rcases Nat.lt_or_ge k n with h2 | h2
          · exact i1 k h2
          · rw [show k = n by omega]; exact hh
        · subst h
          omega
      · cases h
theorem text_prL {f : Nat → Ins} : ∀ {n : Nat}, (∀ k, k < n → hasL (f k) = true) → (textF f n).length ≤ 8192 → prL f n = some (textF f n) := by
  intro n
  induction n with
  | zero => intro _ _; rfl
  | succ n ih =>
    intro h ht
    rw [textF_succ] at ht ⊢
    have hl : (textF f n).length ≤ 8192 := by rw [List.length_append] at ht; omega
    simp only [prL]
    rw [ih (fun k hk => h k (by omega)) hl]
    simp only
    rw [if_pos (h n (by omega)), if_pos hl]
    rfl
theorem prV_ok {f : Nat → Ins} {n : Nat} (h : (prV f n).2 = 0) : n ≤ 255 ∧ (∀ k, k < n → hasL (f k) = true) ∧ (prV f n).1 = textF f n ∧ (textF f n).length ≤ 8192 := by
  unfold prV at h ⊢
  cases h0 : prL f n with
  | none => rw [h0] at h; cases h
  | some t =>
    rw [h0] at h
    simp only at h ⊢
    by_cases h1 : 255 < n ∨ 8192 < t.length
    · rw [if_pos h1] at h; cases h
    · rw [if_neg h1]
      obtain ⟨i1, i2⟩ := prL_text h0 (by omega)
      exact ⟨by omega, i1, i2, by rw [← i2]; omega⟩
theorem prV_bad {f : Nat → Ins} {n : Nat} (h : (prV f n).2 ≠ 0) (h1 : ∀ k, k < n → hasL (f k) = true) : (prV f n).2 = 3 := by
  have hsome : ∀ m, m ≤ n → ∃ t, prL f m = some t := by
    intro m
    induction m with
    | zero => intro _; exact ⟨[], rfl⟩
    | succ m ih =>
      intro hm
      obtain ⟨t, ht⟩ := ih (by omega)
      simp only [prL, ht, h1 m (by omega), if_true]
      exact ⟨_, rfl⟩
  obtain ⟨t, ht⟩ := hsome n (Nat.le_refl _)
  unfold prV at h ⊢
  rw [ht] at h ⊢
  simp only at h ⊢
  split
  · rfl
  · rename_i h2
    rw [if_neg h2] at h
    exact absurd rfl h
theorem lnB_line {q : Ins} (h : hasL q = true) (r : List UInt8) : linesL (lnB q ++ r) = lnB q :: linesL r := by
  have := linesL_first (lineB q) r (line_mem q h)
  simpa [lnB] using this
theorem lnB_step {q : Ins} (hq : insO q) (h : hasL q = true) {acc : List Ins} (ha : acc.length ≠ 255) : stepB acc (lnB q) = some (acc ++ [q]) := by
  have h1 : Lib.hasSuffix (lnB q) [10] = true := by
    rw [Lib.hasSuffix, List.isSuffixOf_iff_suffix]
    exact ⟨lineB q, rfl⟩
  have h2 : Lib.trimSuffix (lnB q) [10] = lineB q := by
    rw [Lib.trimSuffix, if_pos h1]
    simp [lnB]
  exact stepB_ok h1 (by rw [h2]; exact one_line q hq h) ha
theorem text_lines (qs : List Ins) (h : ∀ q ∈ qs, hasL q = true) : linesL ((qs.map lnB).flatten) = qs.map lnB := by
  induction qs with
  | nil => rfl
  | cons q qs ih =>
    rw [List.map_cons, List.flatten_cons, lnB_line (h q List.mem_cons_self), ih (fun p hp => h p (List.mem_cons_of_mem _ hp))]
theorem run_text (qs : List Ins) (acc : List Ins) (h : ∀ q ∈ qs, hasL q = true ∧ insO q) (hn : acc.length + qs.length ≤ 255) : runB (qs.map lnB) acc = some (acc ++ qs) := by
  induction qs generalizing acc with
  | nil => simp [runB]
  | cons q qs ih =>
    obtain ⟨h1, h2⟩ := h q List.mem_cons_self
    simp only [List.length_cons] at hn
    simp only [List.map_cons, runB]
    rw [lnB_step h2 h1 (by omega)]
    simp only
    rw [ih _ (fun p hp => h p (List.mem_cons_of_mem _ hp)) (by simp; omega)]
    simp
theorem parse_text {f : Nat → Ins} {n : Nat} (ho : ∀ k, k < n → insO (f k)) (h : (prV f n).2 = 0) : parseB (prV f n).1 = (rowF f n, 0, 0) := by
  obtain ⟨h1, h2, h3, h4⟩ := prV_ok h
  rw [h3]
  have hall : ∀ q ∈ rowF f n, hasL q = true ∧ insO q := fun q hq => by
    simp only [rowF, List.mem_map, List.mem_range] at hq
    obtain ⟨k, hk, rfl⟩ := hq
    exact ⟨h2 k hk, ho k hk⟩
  refine parse_ok h4 ?_
  unfold textF
  rw [text_lines _ (fun q hq => (hall q hq).1), run_text _ _ hall (by rw [rowF_len]; simp; omega), List.nil_append]
theorem count_text (qs : List Ins) (h : ∀ q ∈ qs, hasL q = true) : Lib.countByte ((qs.map lnB).flatten) 10 = qs.length := by
  unfold Lib.countByte
  induction qs with
  | nil => rfl
  | cons q qs ih =>
    rw [List.map_cons, List.flatten_cons, List.count_append, ih (fun p hp => h p (List.mem_cons_of_mem _ hp))]
    have h0 : (lineB q).count 10 = 0 := List.count_eq_zero.2 (fun hc => line_mem q (h q List.mem_cons_self) 10 hc rfl)
    have h1 : (lnB q).count 10 = 1 := by rw [lnB, List.count_append, h0]; rfl
    rw [h1, List.length_cons]
    omega
theorem count_print {f : Nat → Ins} {n : Nat} (h : (prV f n).2 = 0) : Lib.countByte (prV f n).1 10 = n := by
  obtain ⟨h1, h2, h3, h4⟩ := prV_ok h
  rw [h3, textF, count_text, rowF_len]
  intro q hq
  simp only [rowF, List.mem_map, List.mem_range] at hq
  obtain ⟨k, hk, rfl⟩ := hq
  exact h2 k hk
/-! A text that is right. -/
theorem step_inv {acc acc' : List Ins} {x : List UInt8} (h : stepB acc x = some acc') : ∃ q, acc' = acc ++ [q] ∧ x = lnB q ∧ hasL q = true ∧ insO q ∧ acc.length ≠ 255 := by
  unfold stepB at h
  cases ho : oneB (Lib.trimSuffix x [10]) with
  | none => rw [ho] at h; cases h
  | some q =>
    rw [ho] at h
    simp only at h
    split at h
    · rename_i hc
      simp only [Option.some.injEq] at h
      obtain ⟨e1, e2, e3⟩ := line_one _ _ ho
      refine ⟨q, h.symm, ?_, e2, e3, hc.2⟩
      obtain ⟨s, hs⟩ := List.isSuffixOf_iff_suffix.1 (show [10].isSuffixOf x = true from hc.1)
      rw [Lib.trimSuffix, if_pos hc.1, ← hs] at e1
      simp at e1
      rw [lnB, e1, hs]
    · cases h
theorem run_inv (xs : List (List UInt8)) : ∀ (acc out : List Ins), runB xs acc = some out → acc.length ≤ 255 → ∃ qs, out = acc ++ qs ∧ xs = qs.map lnB ∧ (∀ q ∈ qs, hasL q = true ∧ insO q) ∧ out.length ≤ 255 := by
  induction xs with
  | nil =>
    intro acc out h ha
    simp only [runB, Option.some.injEq] at h
    subst h
    exact ⟨[], by simp, rfl, (fun q hq => by cases hq), ha⟩
  | cons x xs ih =>
    intro acc out h ha
    simp only [runB] at h
    cases hs : stepB acc x with
    | none => rw [hs] at h; cases h
    | some acc' =>
      rw [hs] at h
      obtain ⟨q, e1, e2, e3, e4, e5⟩ := step_inv hs
      subst e1
      obtain ⟨qs, i1, i2, i3, i4⟩ := ih _ _ h (by simp; omega)
      refine ⟨q :: qs, by rw [i1]; simp, by rw [List.map_cons, ← e2, ← i2], fun p hp => ?_, i4⟩
      rcases List.mem_cons.1 hp with rfl | hp
      · exact ⟨e3, e4⟩
      · exact i3 p hp
def insD : Ins := (0, 0, 0, 0)
theorem rowF_get (qs : List Ins) : rowF (fun k => qs.getD k insD) qs.length = qs := by
  apply List.ext_getElem (by rw [rowF_len])
  intro i h1 h2
  simp [rowF, List.getD, h2]
theorem text_cases (l : List UInt8) (hl : l.length ≤ 8192) : (∃ qs : List Ins, parseB l = (qs, 0, 0) ∧ qs.length ≤ 255 ∧ (∀ q ∈ qs, insO q) ∧ prV (fun k => qs.getD k insD) qs.length = (l, 0)) ∨ ∃ p : Nat, parseB l = ([], p, 180) ∧ p < l.length := by
  rcases runB_cases (linesL l) [] with ⟨out, h⟩ | ⟨xs, x, ys, out, e, h1, h2⟩
  · obtain ⟨qs, i1, i2, i3, i4⟩ := run_inv _ _ _ h (by simp)
    rw [List.nil_append] at i1
    subst i1
    have hf := linesL_flatten l
    rw [i2] at hf
    have ht : textF (fun k => out.getD k insD) out.length = l := by rw [textF, rowF_get, hf]
    have hh : ∀ k, k < out.length → hasL (out.getD k insD) = true := fun k hk => by
      have : out.getD k insD = out[k] := by simp [List.getD, hk]
      rw [this]
      exact (i3 _ (List.getElem_mem hk)).1
    have hp := text_prL (f := fun k => out.getD k insD) (n := out.length) hh (by rw [ht]; exact hl)
    refine .inl ⟨out, parse_ok hl h, i4, fun q hq => (i3 q hq).2, ?_⟩
    unfold prV
    rw [hp, ht]
    simp only
    rw [if_neg (by omega)]
  · refine .inr ⟨xs.flatten.length, parse_no hl e h1 h2, ?_⟩
    have hx : x ≠ [] := linesL_ne l x (by rw [e]; simp)
    have hxp := List.length_pos_iff.2 hx
    have hf := linesL_flatten l
    rw [e] at hf
    rw [← hf]
    simp only [List.flatten_append, List.flatten_cons, List.length_append]
    omega
theorem hasL_bare {q : Ins} (h : ¬ formOf q.1 < 0) : hasL (bareI q) = true := by
  have h1 : (nameOf q.1).2 = true := by
    unfold formOf at h
    unfold nameOf
    cases hr : rowC q.1 with
    | none => rw [hr] at h; exact absurd (by decide) h
    | some i => rfl
  simp only [hasL, Bool.and_eq_true, decide_eq_true_eq]
  exact ⟨h1, bareI2 q⟩
end Go.Proofs.YtceeinljakcdkaaDoor
