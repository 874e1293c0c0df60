/-
  Instructions and their bytes, as numbers: plain lemmas.
-/
import Derived.Test.YtndmlbepjcagiaaDoorRowD
namespace Go.Proofs.YtndmlbepjcagiaaDoor
open Go.RowKit

theorem low2 (c : Int) : low c 2 = [c % 256, c / 256 % 256] := by simp [low, byt, List.range_succ]
theorem low4 (k : Int) : low k 4 = [k % 256, k / 256 % 256, k / 65536 % 256, k / 16777216 % 256] := by simp [low, byt, List.range_succ]
theorem bytI_eq (x : Ins) : bytI x = [x.1 % 256, x.1 / 256 % 256, x.2.1, x.2.2.1, x.2.2.2 % 256, x.2.2.2 / 256 % 256, x.2.2.2 / 65536 % 256, x.2.2.2 / 16777216 % 256] := by
  simp only [bytI, insB, low2, low4]
  rfl
theorem num2 (a b : Int) : numL [a, b] = a + 256 * b := by simp [numL]
theorem num1 (a : Int) : numL [a] = a := by simp [numL]
theorem num4 (a b c d : Int) : numL [a, b, c, d] = a + 256 * b + 65536 * c + 16777216 * d := by simp [numL]; omega
theorem of_eight (q0 q1 q2 q3 q4 q5 q6 q7 : Int) : dC [q0, q1, q2, q3, q4, q5, q6, q7] = q0 + 256 * q1 ∧ dA [q0, q1, q2, q3, q4, q5, q6, q7] = q2 ∧ dB [q0, q1, q2, q3, q4, q5, q6, q7] = q3 ∧
    dK [q0, q1, q2, q3, q4, q5, q6, q7] = q4 + 256 * q5 + 65536 * q6 + 16777216 * q7 :=
  ⟨num2 _ _, num1 _, num1 _, num4 _ _ _ _⟩
theorem back_bytI (x : Ins) (h : insO x) : (dC (bytI x), dA (bytI x), dB (bytI x), dK (bytI x)) = x := by
  obtain ⟨c, a, b, k⟩ := x
  obtain ⟨c0, c1, a0, a1, b0, b1, k0, k1⟩ := h
  rw [bytI_eq]
  obtain ⟨e1, e2, e3, e4⟩ := of_eight (c % 256) (c / 256 % 256) a b (k % 256) (k / 256 % 256) (k / 65536 % 256) (k / 16777216 % 256)
  simp only at c0 c1 a0 a1 b0 b1 k0 k1 ⊢
  rw [e1, e2, e3, e4]
  refine Prod.ext (by simp only; omega) (Prod.ext rfl (Prod.ext rfl (by simp only; omega)))
theorem eight {q : List Int} (h : q.length = 8) : ∃ q0 q1 q2 q3 q4 q5 q6 q7, q = [q0, q1, q2, q3, q4, q5, q6, q7] := by
  match q, h with
  | [q0, q1, q2, q3, q4, q5, q6, q7], _ => exact ⟨q0, q1, q2, q3, q4, q5, q6, q7, rfl⟩
theorem forth_bytI {q : List Int} (hq : Byt q) (h : q.length = 8) : bytI (dC q, dA q, dB q, dK q) = q ∧ insO (dC q, dA q, dB q, dK q) := by
  obtain ⟨q0, q1, q2, q3, q4, q5, q6, q7, rfl⟩ := eight h
  obtain ⟨e1, e2, e3, e4⟩ := of_eight q0 q1 q2 q3 q4 q5 q6 q7
  have b : ∀ z ∈ [q0, q1, q2, q3, q4, q5, q6, q7], 0 ≤ z ∧ z ≤ 255 := hq
  have h0 := b q0 (by simp)
  have h1 := b q1 (by simp)
  have h2 := b q2 (by simp)
  have h3 := b q3 (by simp)
  have h4 := b q4 (by simp)
  have h5 := b q5 (by simp)
  have h6 := b q6 (by simp)
  have h7 := b q7 (by simp)
  rw [e1, e2, e3, e4]
  refine ⟨?_, ?_⟩
  · rw [bytI_eq]
    simp only [List.cons.injEq, and_true]
    refine ⟨by omega, by omega, trivial, trivial, by omega, by omega, by omega, by omega⟩
  · constructor <;> simp only <;> omega

theorem flat_len (g : Nat → List Int) (hg : ∀ k, (g k).length = 8) (m : Nat) : ((List.range m).flatMap g).length = m * 8 := by
  induction m with
  | zero => rfl
  | succ m ih => rw [List.range_succ, List.flatMap_append, List.length_append, ih]; simp [hg]; omega
theorem flat_piece (g : Nat → List Int) (hg : ∀ k, (g k).length = 8) (m x : Nat) (hx : x < m) : (((List.range m).flatMap g).drop (x * 8)).take 8 = g x := by
  induction m with
  | zero => omega
  | succ m ih =>
    have hl := flat_len g hg m
    rw [List.range_succ, List.flatMap_append]
    rcases Nat.lt_or_ge x m with h | h
    · rw [List.drop_append_of_le_length (by omega), List.take_append_of_le_length (by rw [List.length_drop]; omega)]
      exact ih h
    · obtain rfl : x = m := by omega
      rw [← hl, List.drop_left]
      simp [List.take_of_length_le, hg]
theorem pieces_all (l : List Int) (m : Nat) (h : m * 8 ≤ l.length) : ((List.range m).flatMap fun k => (l.drop (k * 8)).take 8) = l.take (m * 8) := by
  induction m with
  | zero => simp
  | succ m ih => rw [List.range_succ, List.flatMap_append, ih (by omega), Nat.succ_mul, List.take_add]; simp
theorem piece_len {l : List Int} {m k : Nat} (h : l.length = m * 8) (hk : k < m) : ((l.drop (k * 8)).take 8).length = 8 := by rw [List.length_take, List.length_drop]; omega

theorem dI_flat (f : Nat → Ins) (m k : Nat) (hf : ∀ k, k < m → insO (f k)) (hk : k < m) : dI ((List.range m).flatMap fun k => bytI (f k)) k = f k := by
  unfold dI
  rw [flat_piece (fun k => bytI (f k)) (fun k => bytI_len _) m k hk]
  exact back_bytI (f k) (hf k hk)
theorem insO_dI {l : List Int} (hl : Byt l) {m k : Nat} (h : l.length = m * 8) (hk : k < m) : insO (dI l k) := (forth_bytI ((hl.drop _).take _) (piece_len h hk)).2
theorem flatMap_ext {α β : Type} {l : List α} {f g : α → List β} (h : ∀ x ∈ l, f x = g x) : l.flatMap f = l.flatMap g := by
  induction l with
  | nil => rfl
  | cons a l ih => rw [List.flatMap_cons, List.flatMap_cons, h a (by simp), ih fun x hx => h x (by simp [hx])]
theorem bytes_back {l : List Int} (hl : Byt l) {m : Nat} (h : l.length = m * 8) : ((List.range m).flatMap fun k => bytI (dI l k)) = l := by
  have e : ((List.range m).flatMap fun k => bytI (dI l k)) = (List.range m).flatMap fun k => (l.drop (k * 8)).take 8 := flatMap_ext fun k hk => (forth_bytI ((hl.drop _).take _) (piece_len h (List.mem_range.1 hk))).1
  rw [e, pieces_all l m (by omega)]
  exact List.take_of_length_le (by omega)
end Go.Proofs.YtndmlbepjcagiaaDoor
