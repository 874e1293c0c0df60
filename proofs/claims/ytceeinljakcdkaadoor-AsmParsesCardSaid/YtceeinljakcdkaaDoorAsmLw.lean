/-
  Lines behind a wrong one change nothing: in plain lists.
-/
import Derived.Test.YtceeinljakcdkaaDoorAsmPar
namespace Go.Proofs.YtceeinljakcdkaaDoor
open Go.RowKit

theorem take_last (l : List UInt8) (i : Nat) (h : Lib.indexByte l 10 = (i : Int)) : (l.take (i + 1)).getLast? = some 10 ∧ linesL (l.take (i + 1)) = [l.take (i + 1)] := by
  obtain ⟨h1, h2⟩ := Lib.indexByte_some h
  have hi : i < l.length := (List.getElem?_eq_some_iff.1 h1).1
  have hx : ∀ c ∈ l.take i, c ≠ 10 := by
    intro c hc e10
    obtain ⟨k, hk, ek⟩ := List.mem_iff_getElem.1 hc
    simp at hk
    have := h2 k (by omega)
    rw [List.getElem_take] at ek
    rw [List.getElem?_eq_getElem (by omega), ek, e10] at this
    exact this rfl
  have e : l.take (i + 1) = l.take i ++ [10] := by rw [List.take_add_one, h1]; rfl
  rw [e]
  refine ⟨by simp, ?_⟩
  have := linesL_first (l.take i) [] hx
  simpa [linesL] using this
theorem linesL_cut (xs : List (List UInt8)) : ∀ (l x : List UInt8) (ys : List (List UInt8)), linesL l = xs ++ x :: ys → linesL xs.flatten = xs ∧ (xs.flatten = [] ∨ xs.flatten.getLast? = some 10) ∧ linesL (x ++ ys.flatten) = x :: ys := by
  induction xs with
  | nil =>
    intro l x ys h
    refine ⟨rfl, .inl rfl, ?_⟩
    have := linesL_flatten l
    rw [h] at this
    simp only [List.nil_append, List.flatten_cons] at this
    rw [this]
    exact h
  | cons y xs ih =>
    intro l x ys h
    have hl : l ≠ [] := by
      rintro rfl
      simp [linesL] at h
    have hge := Lib.indexByte_ge l 10
    by_cases hn : Lib.indexByte l 10 = -1
    · rw [linesL_no l hn hl] at h
      have := congrArg List.length h
      simp at this
    · obtain ⟨i, hi⟩ : ∃ i : Nat, Lib.indexByte l 10 = (i : Int) := ⟨(Lib.indexByte l 10).toNat, by omega⟩
      obtain ⟨hlt, hls⟩ := linesL_at l i hi
      obtain ⟨t1, t2⟩ := take_last l i hi
      rw [hls] at h
      simp only [List.cons_append, List.cons.injEq] at h
      obtain ⟨rfl, h⟩ := h
      obtain ⟨i1, i2, i3⟩ := ih _ _ _ h
      refine ⟨?_, .inr ?_, i3⟩
      · rw [List.flatten_cons, linesL_append _ _ (.inr t1), t2, i1]
        rfl
      · rw [List.flatten_cons]
        rcases i2 with e | e
        · rw [e, List.append_nil]; exact t1
        · rw [List.getLast?_append, e]; rfl
theorem lines_law (l m : List UInt8) (hl : l.length ≤ 4000) (hm : m.length ≤ 1000) : (∃ acc, parseB l = (acc, 0, 0)) ∨ ∃ p : Nat, parseB l = ([], p, 180) ∧ p < l.length ∧ (0 < p → l[p - 1]? = some 10) ∧
    ∀ i : Nat, Lib.indexByte (l.drop p) 10 = (i : Int) → p + i + 1 ≤ l.length ∧ parseB (l.take (p + i + 1) ++ m) = ([], p, 180) := by
  rcases runB_cases (linesL l) [] with ⟨out, h⟩ | ⟨xs, x, ys, out, e, h1, h2⟩
  · exact .inl ⟨out, parse_ok (by omega) h⟩
  · refine .inr ⟨xs.flatten.length, parse_no (by omega) e h1 h2, ?_⟩
    obtain ⟨c1, c2, c3⟩ := linesL_cut xs l x ys e
    have hf := linesL_flatten l
    rw [e] at hf
    simp only [List.flatten_append, List.flatten_cons] at hf
    have hx : x ≠ [] := linesL_ne l x (by rw [e]; simp)
    have hxp := List.length_pos_iff.2 hx
    have hd : l.drop xs.flatten.length = x ++ ys.flatten := by rw [← hf]; simp
    have hlen : l.length = xs.flatten.length + (x.length + ys.flatten.length) := by rw [← hf]; simp only [List.length_append]
    refine ⟨by omega, fun hp => ?_, fun i hi => ?_⟩
    · rcases c2 with c2 | c2
      · rw [c2] at hp; simp at hp
      · rw [List.getLast?_eq_getElem?] at c2
        rw [← hf, List.getElem?_append_left (by omega)]
        exact c2
    · rw [hd] at hi
      obtain ⟨i1, i2⟩ := linesL_at _ i hi
      obtain ⟨t1, t2⟩ := take_last _ i hi
      rw [c3] at i2
      simp only [List.cons.injEq] at i2
      rw [← i2.1] at t1 t2
      have ht : l.take (xs.flatten.length + i + 1) = xs.flatten ++ x := by
        rw [← hf, Nat.add_assoc, List.take_length_add_append, ← i2.1]
      have hil : i < x.length + ys.flatten.length := by simpa using i1
      refine ⟨by omega, ?_⟩
      have hxl : (xs.flatten ++ x).length ≤ 4000 := by rw [← ht, List.length_take]; omega
      rw [ht]
      refine parse_no (xs := xs) (x := x) (ys := linesL m) (by rw [List.length_append]; omega) ?_ h1 h2
      rw [linesL_append _ _ (.inr (by rw [List.getLast?_append, t1]; rfl)), linesL_append _ _ c2, c1, t2]
      simp
end Go.Proofs.YtceeinljakcdkaaDoor
