/-
  slices.Equal at numbers.
-/
import Derived.Test.YtfohifnbohdbcaaRi7
import Derived.Test.YtfohifnbohdbcaaGen
namespace Go.Proofs.Ytfohifnbohdbcaa
open Go.RowKit Go.Shelf
set_option linter.unusedVariables false
set_option linter.unusedSimpArgs false

/-- Are two lists the same, from a place on? -/
theorem eq_drop {l p : List Int} {k : Nat} (h : k < l.length) (h' : k < p.length) : (l.drop k == p.drop k) = ((l.getD k 0 == p.getD k 0) && (l.drop (k + 1) == p.drop (k + 1))) := by
  have e1 : l.getD k 0 = l[k] := by simp [List.getD, h]
  have e2 : p.getD k 0 = p[k] := by simp [List.getD, h']
  rw [e1, e2, List.drop_eq_getElem_cons h, List.drop_eq_getElem_cons h', List.cons_beq_cons]
set_option maxRecDepth 100000 in
set_option maxHeartbeats 2000000 in
theorem equalZ_any (A : Option Addr) (m c : Nat) (l : List Int) (A2 : Option Addr) (m2 c2 : Nat) (l2 : List Int) (w : World) (hA : Ri7 w w.heap.size A l) (hm : m = l.length) (h6 : m ≤ 1000000) (hA2 : Ri7 w w.heap.size A2 l2) (hm2 : m2 = l2.length) :
    Calls Try.prog 66 #[.slice A m c, .slice A2 m2 c2] w fun e w' => e = .returned (.bool (l == l2)) ∧ Below w.heap.size w w' := by
  have B0 := Below.refl w.heap.size w
  have HM := Lib.hid hm
  have HM2 := Lib.hid hm2
  clear hm hm2
  by_cases hmm : m = m2
  · subst hmm
    go_enter Try.func66, Try.ntmps66
    go_wp2_with fail
    go_loopw [13] (fun i wr' => ∃ (k : Nat) (wr : World), wr = wr' ∧ k ≤ m ∧ i = .int .i64 k ∧ (l == l2) = (l.drop k == l2.drop k) ∧ Below w.heap.size w wr) (fun i _ => m - (intOf i).toNat)
    case atStart => exact ⟨0, _, rfl, Nat.zero_le _, rfl, by simp, B0⟩
    case round =>
      clear B0
      obtain ⟨k, wr, hwr, hk, rfl, hinv, hB⟩ := hrel
      subst hwr
      by_cases hlt : k < m
      · have hlt' : (k : Int) < (m : Int) := by omega
        have hkl : k < l.length := by have := HM.out; omega
        have hkl2 : k < l2.length := by have := HM2.out; omega
        obtain ⟨b, off, rfl, hb, hc⟩ := hA.below hB (Nat.le_refl _) k hkl
        obtain ⟨b2, off2, rfl, hb2, hc2⟩ := hA2.below hB (Nat.le_refl _) k hkl2
        rw [eq_drop hkl hkl2] at hinv
        generalize l.getD k 0 = y at hc hinv
        generalize l2.getD k 0 = y2 at hc2 hinv
        cases h1 : (y == y2)
        · rw [h1] at hinv
          have HI := Lib.hid hinv
          clear hinv
          go_wp2_with fail
          go_region
          all_goals
            go_wp2_with fail
            go_ret
            exact ⟨by rw [HI.out]; rfl, by first | exact hB.drew | exact hB⟩
        · rw [h1, Bool.true_and] at hinv
          have HI := Lib.hid hinv
          clear hinv
          go_wp2_with fail
          go_region
          all_goals
            go_wp2_with fail
            go_roundw
            case rel => exact ⟨k + 1, _, rfl, by omega, by go_num, HI.out, by first | exact hB.drew | exact hB⟩
            case measure => simp [intOf]; omega
      · obtain rfl : k = m := by omega
        have hi : (l == l2) = true := by rw [hinv]; conv => lhs; rw [HM.out, List.drop_length, ← HM.out, HM2.out, List.drop_length]
                                         rfl
        have HI := Lib.hid hi
        clear hinv hi
        go_wp2_with fail
        go_ret
        exact ⟨by rw [HI.out]; rfl, hB⟩
  · have hi : (l == l2) = false := by
      rw [beq_eq_false_iff_ne]
      intro e
      exact hmm (by rw [HM.out, HM2.out, e])
    have hne : ((m : Int) == (m2 : Int)) = false := by simp; omega
    have HI := Lib.hid hi
    have HN := Lib.hid hmm
    clear hi hmm
    go_enter Try.func66, Try.ntmps66
    go_wp2_with fail
    go_ret
    exact ⟨by rw [HI.out]; rfl, B0⟩
end Go.Proofs.Ytfohifnbohdbcaa
