/-
  A call's data, its words and its bytes lead to one another: plain lemmas.
-/
import Derived.Test.YtepkhkfdokinmaaDoorFlat
import Derived.Test.YtepkhkfdokinmaaDoorDatP
namespace Go.Proofs.YtepkhkfdokinmaaDoor
open Go.RowKit

theorem low4' (k : Int) : low k 4 = [k % 256, k / 256 % 256, k / 65536 % 256, k / 16777216 % 256] := by simp [low, byt, List.range_succ]
theorem low8' (k : Int) : low k 8 = low (lo k) 4 ++ low (hi k) 4 := by
  simp only [low4', lo, hi]
  simp [low, byt, List.range_succ]
  omega
theorem num4' (a b c d : Int) : numL [a, b, c, d] = a + 256 * b + 65536 * c + 16777216 * d := by simp [numL]; omega
theorem num_low4 (x : Int) (h : U32 x) : numL (low x 4) = x := by
  unfold U32 at h
  rw [low4', num4']
  omega
theorem low_num4 {q : List Int} (hq : Byt q) (h : q.length = 4) : low (numL q) 4 = q := by
  match q, h with
  | [a, b, c, d], _ =>
    have g : ∀ z ∈ [a, b, c, d], 0 ≤ z ∧ z ≤ 255 := hq
    simp only [List.mem_cons, List.not_mem_nil, or_false, forall_eq_or_imp, forall_eq] at g
    rw [num4', low4']
    simp only [List.cons.injEq, and_true]
    omega
/-- The bytes of words. -/
def wb (L : List Int) : List Int := (List.range 16).flatMap fun i => low (L.getD i 0) 4
theorem datB_wb (d : Dat) : datB d = wb (wordsL d) := by
  simp [datB, argB, argL, wb, wordsL, List.range_succ, low8']
theorem get_getD (l : List Int) (i : Nat) (h : i < l.length) : l[i]? = some (l.getD i 0) := by simp [List.getD, h]
theorem words_of_wb (L : List Int) (hL : L.length = 16) (h : U32s L) : wordsB (wb L) = L := by
  apply List.ext_getElem?
  intro i
  rcases Nat.lt_or_ge i 16 with hi | hi
  · rw [get_getD _ i (by rw [wordsB_len]; exact hi), get_getD L i (by omega), wordsB_get _ i hi, Nat.mul_comm 4 i, wb, flatN_piece 4 _ (fun k => low_length _ _) 16 i hi, num_low4 _ (h.at_ i)]
  · rw [List.getElem?_eq_none (by rw [wordsB_len]; exact hi), List.getElem?_eq_none (by omega)]
theorem wb_of_words (l : List Int) (hl : l.length = 64) (hb : Byt l) : wb (wordsB l) = l := by
  have e : wb (wordsB l) = (List.range 16).flatMap fun k => (l.drop (k * 4)).take 4 := by
    unfold wb
    have : ∀ i ∈ List.range 16, low ((wordsB l).getD i 0) 4 = (l.drop (i * 4)).take 4 := by
      intro i hi
      have hi' : i < 16 := by simpa using hi
      rw [wordsB_get l i hi', Nat.mul_comm 4 i]
      exact low_num4 ((hb.drop _).take _) (by rw [List.length_take, List.length_drop]; omega)
    simp only [List.flatMap_def]
    rw [List.map_congr_left this]
  rw [e, piecesN_all 4 l 16 (by omega), List.take_of_length_le (by omega)]
theorem words_datB (d : Dat) (h : DatOk d) : wordsB (datB d) = wordsL d := by rw [datB_wb, words_of_wb _ (words_len d) (words_bd d h)]
theorem dat_back (d : Dat) (h : DatOk d) : joinD (wordsB (datB d)) = d := by rw [words_datB d h, join_words]
theorem dat_forth (l : List Int) (hl : l.length = 64) (hb : Byt l) : datB (joinD (wordsB l)) = l := by rw [datB_wb, words_join _ (wordsB_len l) (wordsB_bd hb), wb_of_words l hl hb]
theorem words_inj (a b : Dat) : wordsL a = wordsL b ↔ a = b := ⟨fun h => by rw [← join_words a, h, join_words], fun h => by rw [h]⟩
end Go.Proofs.YtepkhkfdokinmaaDoor
