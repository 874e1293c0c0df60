/-
  cmp.Compare at numbers; where a number stands in a row that rises; a guarded load of a struct from the midst of a row.
-/
import Derived.Test.YtfohifnbohdbcaaRi7
import Derived.Test.YtfohifnbohdbcaaGen
import Derived.Test.YtfohifnbohdbcaaPiM
namespace Go.Proofs.Ytfohifnbohdbcaa
open Go.RowKit Go.Shelf
set_option linter.unusedVariables false
set_option linter.unusedSimpArgs false

theorem isnan_tk (x : Int) (w : World) : Calls Try.prog 96 #[.int .i64 x] w fun e w' => e = .returned (.bool false) ∧ w' = w := by
  go_enter Try.func96, Try.ntmps96
  go_wp2
  go_ret
  exact ⟨by simp, rfl⟩
/-- How two numbers compare. -/
def cmpZ (x y : Int) : Int := if x < y then -1 else if y < x then 1 else 0
theorem compare_tk (x y : Int) (w : World) : Calls Try.prog 89 #[.int .i64 x, .int .i64 y] w fun e w' => e = .returned (.int .i64 (cmpZ x y)) ∧ w' = w := by
  unfold cmpZ
  by_cases h1 : x < y
  · have d1 : decide (x < y) = true := decide_eq_true h1
    rw [if_pos h1]
    clear h1
    go_enter Try.func89, Try.ntmps89
    go_wp2_with (first | (refine (isnan_tk _ _).mono ?_; rintro e w' ⟨rfl, rfl⟩))
    go_ret
    exact ⟨rfl, rfl⟩
  · by_cases h2 : y < x
    · have d1 : decide (x < y) = false := decide_eq_false h1
      have d2 : decide (y < x) = true := decide_eq_true h2
      rw [if_neg h1, if_pos h2]
      clear h1 h2
      go_enter Try.func89, Try.ntmps89
      go_wp2_with (first | (refine (isnan_tk _ _).mono ?_; rintro e w' ⟨rfl, rfl⟩))
      go_ret
      exact ⟨rfl, rfl⟩
    · have d1 : decide (x < y) = false := decide_eq_false h1
      have d2 : decide (y < x) = false := decide_eq_false h2
      rw [if_neg h1, if_neg h2]
      clear h1 h2
      go_enter Try.func89, Try.ntmps89
      go_wp2_with (first | (refine (isnan_tk _ _).mono ?_; rintro e w' ⟨rfl, rfl⟩))
      go_ret
      exact ⟨rfl, rfl⟩
theorem wpListG_load_mid {P : Program} {ops : Array Oper} {rest : List Oper} {o : Oper} {a : Act} {w : World} {Q : Exit → Act → World → Prop} (hw : Region.wanted o (yielded ops a.tmps) = true) (ty : TypeId) (x : Operand) (ho : o.op = .load ty x)
    (g off : Nat) (hx : a.eval x = .pointer (some ⟨g, off, none⟩)) (cs : List Value) (d : TypeDesc) (hc : w.rangeAt g off cs) (hu : P.underlying ty = some d) (hd : d.isRow = true) (hi : (P.info? ty).map (·.size) = some cs.length)
    (h : wpList P ops Q rest (a.put o.dst (.agg cs.toArray)) w) : wpList P ops Q (o :: rest) a w :=
  wpListG_at hw fun _ hK => by
    have hr := run_loadVar_mid (P := P) w g off ty cs d hc hu hd hi
    unfold Oper.wp execOp
    simp only [ho, hx, Instr.loadAt, Instr.sureAddr, Sem.run_bind, Sem.run_pure, Result.andThen_ok, hr]
    exact hK _ _ h
/-- Where a Pid stands, or would stand, is told by two rows of comparisons. -/
theorem less_at {l : List Int} {x : Int} {i : Nat} (hi : i ≤ l.length) (h1 : ∀ k, k < i → l.getD k 0 < x) (h2 : ∀ k, i ≤ k → k < l.length → x ≤ l.getD k 0) : lessP l x = i := by
  have e : l = l.take i ++ l.drop i := (List.take_append_drop i l).symm
  unfold lessP
  rw [e, List.countP_append]
  have ha : (l.take i).countP (fun y => decide (y < x)) = (l.take i).length := by
    rw [List.countP_eq_length]
    intro y hy
    obtain ⟨k, hk, rfl⟩ := List.getElem_of_mem hy
    rw [List.length_take] at hk
    have := h1 k (by omega)
    rw [List.getElem_take]
    simpa [List.getD, show k < l.length by omega] using this
  have hb : (l.drop i).countP (fun y => decide (y < x)) = 0 := by
    rw [List.countP_eq_zero]
    intro y hy
    obtain ⟨k, hk, rfl⟩ := List.getElem_of_mem hy
    rw [List.length_drop] at hk
    have := h2 (i + k) (by omega) (by omega)
    rw [List.getElem_drop]
    simpa [List.getD, show i + k < l.length by omega] using this
  rw [ha, hb, List.length_take]
  omega
theorem up_getD {l : List Int} (h : l.Pairwise (· < ·)) {j k : Nat} (hj : j < k) (hk : k < l.length) : l.getD j 0 < l.getD k 0 := by
  have := List.pairwise_iff_getElem.1 h j k (by omega) hk hj
  simpa [List.getD, hk, show j < l.length by omega] using this
end Go.Proofs.Ytfohifnbohdbcaa
