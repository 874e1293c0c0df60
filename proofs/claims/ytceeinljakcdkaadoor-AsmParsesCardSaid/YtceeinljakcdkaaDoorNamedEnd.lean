/-
  The reference's answers on codes: named at every code; Name, Form.
-/
import Derived.Test.YtceeinljakcdkaaDoorNamed1
import Derived.Test.YtceeinljakcdkaaDoorNamed2
import Derived.Test.YtceeinljakcdkaaDoorNamed3
import Derived.Test.YtceeinljakcdkaaDoorNamed4
import Derived.Test.YtceeinljakcdkaaDoorNamed5
import Derived.Test.YtceeinljakcdkaaDoorTabM
namespace Go.Proofs.YtceeinljakcdkaaDoor
open Go.RowKit

theorem row_other (n : Nat) (hn : n < 256) (h : (n % 16 != 4 && n % 16 != 12 && n % 16 != 5 && n % 16 != 13 && !([32, 128, 129, 22, 132, 7, 135, 6, 0, 1, 96, 97, 2, 3, 5] : List Nat).contains n) = true) : rowC (n : Int) = none := by
  have hall : ((List.range 256).all fun n => (!(n % 16 != 4 && n % 16 != 12 && n % 16 != 5 && n % 16 != 13 && !([32, 128, 129, 22, 132, 7, 135, 6, 0, 1, 96, 97, 2, 3, 5] : List Nat).contains n)) || (rowC (n : Int)).isNone) = true := by decide +kernel
  have := List.all_eq_true.1 hall n (List.mem_range.2 hn)
  rw [h] at this
  simpa using this
theorem row_big (c : Int) (h : 255 < c) : rowC c = none := by
  refine find_none fun i hi => ?_
  have hall : ((List.range 41).all fun i => decide (kC i ≤ 255)) = true := by decide
  have := List.all_eq_true.1 hall i hi
  simp only [decide_eq_true_eq] at this
  simp only [beq_eq_false_iff_ne, ne_eq]
  omega

set_option maxRecDepth 100000 in
set_option maxHeartbeats 4000000 in
theorem named_other (c : Int) (w : World) (h0 : 0 ≤ c) (h1 : c ≤ 255) (r4 : ¬ c % 16 = 4) (r12 : ¬ c % 16 = 12) (r5 : ¬ c % 16 = 5) (r13 : ¬ c % 16 = 13) (n1 : c ≠ 32) (n2 : c ≠ 128) (n3 : c ≠ 129) (n4 : c ≠ 22) (n6 : c ≠ 7) (n7 : c ≠ 135) (n8 : c ≠ 6) (n9 : c ≠ 0) (n10 : c ≠ 1)
    (n11 : c ≠ 96) (n12 : c ≠ 97) (n13 : c ≠ 2) (n14 : c ≠ 3) : NamedAt c w := by
  have hr : rowC c = none := by
    obtain ⟨n, rfl⟩ := Int.eq_ofNat_of_zero_le h0
    refine row_other n (by omega) ?_
    simp
    omega
  have e1 : nameOf c = (⟨#[]⟩, false) := by simp only [nameOf, hr]
  have e2 : formOf c = -1 := by simp only [formOf, hr]
  have n5 : c ≠ 132 := by omega
  have n15 : c ≠ 5 := by omega
  have s4 : (c % 16 == 4) = false := by simpa using r4
  have s5 : (c % 16 == 5) = false := by simpa using r5
  have s12 : (c % 16 == 12) = false := by simpa using r12
  have s13 : (c % 16 == 13) = false := by simpa using r13
  unfold NamedAt
  rw [e1, e2]
  go_enter Tryd.func55, Tryd.ntmps55
  go_wp2_with fail
  refine (sided_any c w h0 h1).mono ?_
  rintro e w1 ⟨rfl, rfl⟩
  go_wp2_with fail
  go_ret2
  exact ⟨rfl, (Below.refl _ _).alloc (Nat.le_refl _) _⟩

theorem named_any (c : Int) (w : World) (h0 : 0 ≤ c) (h1 : c ≤ 255) : NamedAt c w := by
  rcases half_cases h0 h1 with h | h | h | h | h | h | h | h | h | h | h | h | h | h | h | h
  · by_cases r4 : c % 16 = 4
    · obtain rfl : c = 4 := by omega
      exact named_c4 w
    by_cases r12 : c % 16 = 12
    · obtain rfl : c = 12 := by omega
      exact named_c12 w
    by_cases r5 : c % 16 = 5
    · obtain rfl : c = 5 := by omega
      exact named_l5 w
    by_cases r13 : c % 16 = 13
    · obtain rfl : c = 13 := by omega
      exact named_c13 w
    by_cases e0 : c = 0
    · subst e0
      exact named_l0 w
    by_cases e1 : c = 1
    · subst e1
      exact named_l1 w
    by_cases e2 : c = 2
    · subst e2
      exact named_l2 w
    by_cases e3 : c = 3
    · subst e3
      exact named_l3 w
    by_cases e6 : c = 6
    · subst e6
      exact named_l6 w
    by_cases e7 : c = 7
    · subst e7
      exact named_l7 w
    exact named_other c w h0 h1 r4 r12 r5 r13 (by omega) (by omega) (by omega) (by omega) (by omega) (by omega) (by omega) (by omega) (by omega) (by omega) (by omega) (by omega) (by omega)
  · by_cases r4 : c % 16 = 4
    · obtain rfl : c = 20 := by omega
      exact named_c20 w
    by_cases r12 : c % 16 = 12
    · obtain rfl : c = 28 := by omega
      exact named_c28 w
    by_cases r5 : c % 16 = 5
    · obtain rfl : c = 21 := by omega
      exact named_c21 w
    by_cases r13 : c % 16 = 13
    · obtain rfl : c = 29 := by omega
      exact named_c29 w
    by_cases e22 : c = 22
    · subst e22
      exact named_l22 w
    exact named_other c w h0 h1 r4 r12 r5 r13 (by omega) (by omega) (by omega) (by omega) (by omega) (by omega) (by omega) (by omega) (by omega) (by omega) (by omega) (by omega) (by omega)
  · by_cases r4 : c % 16 = 4
    · obtain rfl : c = 36 := by omega
      exact named_c36 w
    by_cases r12 : c % 16 = 12
    · obtain rfl : c = 44 := by omega
      exact named_c44 w
    by_cases r5 : c % 16 = 5
    · obtain rfl : c = 37 := by omega
      exact named_c37 w
    by_cases r13 : c % 16 = 13
    · obtain rfl : c = 45 := by omega
      exact named_c45 w
    by_cases e32 : c = 32
    · subst e32
      exact named_l32 w
    exact named_other c w h0 h1 r4 r12 r5 r13 (by omega) (by omega) (by omega) (by omega) (by omega) (by omega) (by omega) (by omega) (by omega) (by omega) (by omega) (by omega) (by omega)
  · by_cases r4 : c % 16 = 4
    · obtain rfl : c = 52 := by omega
      exact named_c52 w
    by_cases r12 : c % 16 = 12
    · obtain rfl : c = 60 := by omega
      exact named_c60 w
    by_cases r5 : c % 16 = 5
    · obtain rfl : c = 53 := by omega
      exact named_c53 w
    by_cases r13 : c % 16 = 13
    · obtain rfl : c = 61 := by omega
      exact named_c61 w
    exact named_other c w h0 h1 r4 r12 r5 r13 (by omega) (by omega) (by omega) (by omega) (by omega) (by omega) (by omega) (by omega) (by omega) (by omega) (by omega) (by omega) (by omega)
  · by_cases r4 : c % 16 = 4
    · obtain rfl : c = 68 := by omega
      exact named_c68 w
    by_cases r12 : c % 16 = 12
    · obtain rfl : c = 76 := by omega
      exact named_c76 w
    by_cases r5 : c % 16 = 5
    · obtain rfl : c = 69 := by omega
      exact named_c69 w
    by_cases r13 : c % 16 = 13
    · obtain rfl : c = 77 := by omega
      exact named_c77 w
    exact named_other c w h0 h1 r4 r12 r5 r13 (by omega) (by omega) (by omega) (by omega) (by omega) (by omega) (by omega) (by omega) (by omega) (by omega) (by omega) (by omega) (by omega)
  · by_cases r4 : c % 16 = 4
    · obtain rfl : c = 84 := by omega
      exact named_c84 w
    by_cases r12 : c % 16 = 12
    · obtain rfl : c = 92 := by omega
      exact named_c92 w
    by_cases r5 : c % 16 = 5
    · obtain rfl : c = 85 := by omega
      exact named_c85 w
    by_cases r13 : c % 16 = 13
    · obtain rfl : c = 93 := by omega
      exact named_c93 w
    exact named_other c w h0 h1 r4 r12 r5 r13 (by omega) (by omega) (by omega) (by omega) (by omega) (by omega) (by omega) (by omega) (by omega) (by omega) (by omega) (by omega) (by omega)
  · by_cases r4 : c % 16 = 4
    · obtain rfl : c = 100 := by omega
      exact named_c100 w
    by_cases r12 : c % 16 = 12
    · obtain rfl : c = 108 := by omega
      exact named_c108 w
    by_cases r5 : c % 16 = 5
    · obtain rfl : c = 101 := by omega
      exact named_c101 w
    by_cases r13 : c % 16 = 13
    · obtain rfl : c = 109 := by omega
      exact named_c109 w
    by_cases e96 : c = 96
    · subst e96
      exact named_l96 w
    by_cases e97 : c = 97
    · subst e97
      exact named_l97 w
    exact named_other c w h0 h1 r4 r12 r5 r13 (by omega) (by omega) (by omega) (by omega) (by omega) (by omega) (by omega) (by omega) (by omega) (by omega) (by omega) (by omega) (by omega)
  · by_cases r4 : c % 16 = 4
    · obtain rfl : c = 116 := by omega
      exact named_c116 w
    by_cases r12 : c % 16 = 12
    · obtain rfl : c = 124 := by omega
      exact named_c124 w
    by_cases r5 : c % 16 = 5
    · obtain rfl : c = 117 := by omega
      exact named_c117 w
    by_cases r13 : c % 16 = 13
    · obtain rfl : c = 125 := by omega
      exact named_c125 w
    exact named_other c w h0 h1 r4 r12 r5 r13 (by omega) (by omega) (by omega) (by omega) (by omega) (by omega) (by omega) (by omega) (by omega) (by omega) (by omega) (by omega) (by omega)
  · by_cases r4 : c % 16 = 4
    · obtain rfl : c = 132 := by omega
      exact named_l132 w
    by_cases r12 : c % 16 = 12
    · obtain rfl : c = 140 := by omega
      exact named_c140 w
    by_cases r5 : c % 16 = 5
    · obtain rfl : c = 133 := by omega
      exact named_c133 w
    by_cases r13 : c % 16 = 13
    · obtain rfl : c = 141 := by omega
      exact named_c141 w
    by_cases e128 : c = 128
    · subst e128
      exact named_l128 w
    by_cases e129 : c = 129
    · subst e129
      exact named_l129 w
    by_cases e135 : c = 135
    · subst e135
      exact named_l135 w
    exact named_other c w h0 h1 r4 r12 r5 r13 (by omega) (by omega) (by omega) (by omega) (by omega) (by omega) (by omega) (by omega) (by omega) (by omega) (by omega) (by omega) (by omega)
  · by_cases r4 : c % 16 = 4
    · obtain rfl : c = 148 := by omega
      exact named_c148 w
    by_cases r12 : c % 16 = 12
    · obtain rfl : c = 156 := by omega
      exact named_c156 w
    by_cases r5 : c % 16 = 5
    · obtain rfl : c = 149 := by omega
      exact named_c149 w
    by_cases r13 : c % 16 = 13
    · obtain rfl : c = 157 := by omega
      exact named_c157 w
    exact named_other c w h0 h1 r4 r12 r5 r13 (by omega) (by omega) (by omega) (by omega) (by omega) (by omega) (by omega) (by omega) (by omega) (by omega) (by omega) (by omega) (by omega)
  · by_cases r4 : c % 16 = 4
    · obtain rfl : c = 164 := by omega
      exact named_c164 w
    by_cases r12 : c % 16 = 12
    · obtain rfl : c = 172 := by omega
      exact named_c172 w
    by_cases r5 : c % 16 = 5
    · obtain rfl : c = 165 := by omega
      exact named_c165 w
    by_cases r13 : c % 16 = 13
    · obtain rfl : c = 173 := by omega
      exact named_c173 w
    exact named_other c w h0 h1 r4 r12 r5 r13 (by omega) (by omega) (by omega) (by omega) (by omega) (by omega) (by omega) (by omega) (by omega) (by omega) (by omega) (by omega) (by omega)
  · by_cases r4 : c % 16 = 4
    · obtain rfl : c = 180 := by omega
      exact named_c180 w
    by_cases r12 : c % 16 = 12
    · obtain rfl : c = 188 := by omega
      exact named_c188 w
    by_cases r5 : c % 16 = 5
    · obtain rfl : c = 181 := by omega
      exact named_c181 w
    by_cases r13 : c % 16 = 13
    · obtain rfl : c = 189 := by omega
      exact named_c189 w
    exact named_other c w h0 h1 r4 r12 r5 r13 (by omega) (by omega) (by omega) (by omega) (by omega) (by omega) (by omega) (by omega) (by omega) (by omega) (by omega) (by omega) (by omega)
  · by_cases r4 : c % 16 = 4
    · obtain rfl : c = 196 := by omega
      exact named_c196 w
    by_cases r12 : c % 16 = 12
    · obtain rfl : c = 204 := by omega
      exact named_c204 w
    by_cases r5 : c % 16 = 5
    · obtain rfl : c = 197 := by omega
      exact named_c197 w
    by_cases r13 : c % 16 = 13
    · obtain rfl : c = 205 := by omega
      exact named_c205 w
    exact named_other c w h0 h1 r4 r12 r5 r13 (by omega) (by omega) (by omega) (by omega) (by omega) (by omega) (by omega) (by omega) (by omega) (by omega) (by omega) (by omega) (by omega)
  · by_cases r4 : c % 16 = 4
    · obtain rfl : c = 212 := by omega
      exact named_c212 w
    by_cases r12 : c % 16 = 12
    · obtain rfl : c = 220 := by omega
      exact named_c220 w
    by_cases r5 : c % 16 = 5
    · obtain rfl : c = 213 := by omega
      exact named_c213 w
    by_cases r13 : c % 16 = 13
    · obtain rfl : c = 221 := by omega
      exact named_c221 w
    exact named_other c w h0 h1 r4 r12 r5 r13 (by omega) (by omega) (by omega) (by omega) (by omega) (by omega) (by omega) (by omega) (by omega) (by omega) (by omega) (by omega) (by omega)
  · by_cases r4 : c % 16 = 4
    · obtain rfl : c = 228 := by omega
      exact named_c228 w
    by_cases r12 : c % 16 = 12
    · obtain rfl : c = 236 := by omega
      exact named_c236 w
    by_cases r5 : c % 16 = 5
    · obtain rfl : c = 229 := by omega
      exact named_c229 w
    by_cases r13 : c % 16 = 13
    · obtain rfl : c = 237 := by omega
      exact named_c237 w
    exact named_other c w h0 h1 r4 r12 r5 r13 (by omega) (by omega) (by omega) (by omega) (by omega) (by omega) (by omega) (by omega) (by omega) (by omega) (by omega) (by omega) (by omega)
  · by_cases r4 : c % 16 = 4
    · obtain rfl : c = 244 := by omega
      exact named_c244 w
    by_cases r12 : c % 16 = 12
    · obtain rfl : c = 252 := by omega
      exact named_c252 w
    by_cases r5 : c % 16 = 5
    · obtain rfl : c = 245 := by omega
      exact named_c245 w
    by_cases r13 : c % 16 = 13
    · obtain rfl : c = 253 := by omega
      exact named_c253 w
    exact named_other c w h0 h1 r4 r12 r5 r13 (by omega) (by omega) (by omega) (by omega) (by omega) (by omega) (by omega) (by omega) (by omega) (by omega) (by omega) (by omega) (by omega)

theorem kN_some {i : Nat} (hi : i < 41) : (kN i).toList.isEmpty = false := by
  have hall : ((List.range 41).all fun i => !(kAt i).2.1.isEmpty) = true := by decide
  have := List.all_eq_true.1 hall i (List.mem_range.2 hi)
  simpa [kN] using this

set_option maxHeartbeats 1000000 in
theorem refname_any (c : Int) (w : World) (h0 : 0 ≤ c) :
    Calls Tryd.prog 36 #[.int .u16 c] w fun e w' => e = .returned (.tuple #[.string (nameOf c).1, .bool (nameOf c).2]) ∧ Below w.heap.size w w' := by
  by_cases hb : 255 < c
  · have e1 : nameOf c = (⟨#[]⟩, false) := by simp only [nameOf, row_big c hb]
    rw [e1]
    go_enter Tryd.func36, Tryd.ntmps36
    go_wp2
    go_ret2
    exact ⟨rfl, Below.refl _ _⟩
  · have hn := named_any c w h0 (by omega)
    unfold NamedAt at hn
    cases hr : rowC c with
    | none =>
      have e1 : nameOf c = (⟨#[]⟩, false) := by simp only [nameOf, hr]
      rw [e1] at hn ⊢
      go_enter Tryd.func36, Tryd.ntmps36
      go_wp2_with fail
      refine hn.mono ?_
      rintro e w1 ⟨rfl, hb1⟩
      go_wp2_with fail
      go_ret2
      exact ⟨rfl, hb1⟩
    | some i =>
      obtain ⟨hi, _⟩ := rowC_some hr
      have e1 : nameOf c = (kN i, true) := by simp only [nameOf, hr]
      have hs := kN_some hi
      rw [e1] at hn ⊢
      go_enter Tryd.func36, Tryd.ntmps36
      go_wp2_with fail
      refine hn.mono ?_
      rintro e w1 ⟨rfl, hb1⟩
      go_wp2_with fail
      go_ret2
      exact ⟨rfl, hb1⟩

set_option maxHeartbeats 1000000 in
theorem refform_any (c : Int) (w : World) (h0 : 0 ≤ c) :
    Calls Tryd.prog 34 #[.int .u16 c] w fun e w' => e = .returned (.int .i64 (formOf c)) ∧ Below w.heap.size w w' := by
  by_cases hb : 255 < c
  · have e1 : formOf c = -1 := by simp only [formOf, row_big c hb]
    rw [e1]
    go_enter Tryd.func34, Tryd.ntmps34
    go_wp2
    go_ret
    exact ⟨rfl, Below.refl _ _⟩
  · have hn := named_any c w h0 (by omega)
    unfold NamedAt at hn
    go_enter Tryd.func34, Tryd.ntmps34
    go_wp2_with fail
    refine hn.mono ?_
    rintro e w1 ⟨rfl, hb1⟩
    go_wp2_with fail
    go_ret
    exact ⟨rfl, hb1⟩
end Go.Proofs.YtceeinljakcdkaaDoor
