/-
  Plain: what is told hangs on the threads and the locks, not on where they lie.
-/
import Derived.Test.YtfohifnbohdbcaaScLc
import Derived.Test.YtfohifnbohdbcaaScO
import Derived.Test.YtfohifnbohdbcaaScSt
import Derived.Test.YtfohifnbohdbcaaScSm
namespace Go.Proofs.Ytfohifnbohdbcaa
open Go.RowKit Go.Shelf
set_option linter.unusedVariables false
set_option linter.unusedSimpArgs false

/-- The locks alone. -/
def bareK (L : List Kw) : List Kw := (L.map (·.1)).map fun k => (k, (none, 0))
theorem bareK_of {L L' : List Kw} (h : L'.map (·.1) = L.map (·.1)) : bareK L' = bareK L := by unfold bareK; rw [h]
theorem schB_bare (R : List Rn) (L : List Kw) : schB R L = schB R (bareK L) := by
  have e1 : numsK (bareK L) = numsK L := by simp only [bareK, numsK, List.map_map]; rfl
  have e2 : (bareK L).all (ownB R) = L.all (ownB R) := by simp only [bareK, List.all_map]; rfl
  have e3 : (bareK L).all (lockQ R) = L.all (lockQ R) := by simp only [bareK, List.all_map]; rfl
  have e4 : lensK (bareK L) = lensK L := by simp only [bareK, lensK, List.map_map]; rfl
  unfold schB queB
  rw [e1, e2, e3, e4]
theorem lockF_bare (L : List Kw) (n : Int) : (lockF L n).map (·.1) = (lockF (bareK L) n).map (·.1) := by
  unfold lockF bareK
  induction L with
  | nil => rfl
  | cons x L ih =>
    rw [List.map_cons, List.map_cons, List.find?_cons, List.find?_cons]
    cases h : (x.1.n == n)
    · exact ih
    · rfl
theorem ownerF_bare (L : List Kw) (n : Int) : ownerF L n = ownerF (bareK L) n := by
  have h := lockF_bare L n
  unfold ownerF
  cases h1 : lockF L n <;> cases h2 : lockF (bareK L) n
  · rfl
  · rw [h1, h2] at h; cases h
  · rw [h1, h2] at h; cases h
  · rw [h1, h2] at h
    simp only [Option.map_some, Option.some.injEq] at h
    exact congrArg Kn.o h
theorem ownsF_bare (L : List Kw) (id : Int) : ownsF L id = ownsF (bareK L) id := by
  unfold ownsF bareK
  induction L with
  | nil => rfl
  | cons x L ih =>
    rw [List.map_cons, List.map_cons, List.filter_cons, List.filter_cons]
    cases h : (x.1.o == id)
    · simpa using ih
    · simpa using ih
section
variable {L L' : List Kw} (h : L'.map (·.1) = L.map (·.1)) (R : List Rn)
include h
theorem schB_names : schB R L' = schB R L := by rw [schB_bare R L', schB_bare R L, bareK_of h]
theorem scE_names : scE R L' = scE R L := by unfold scE; rw [schB_names h]
theorem rdyA_names : rdyA R L' = rdyA R L := by unfold rdyA; rw [scE_names h]
theorem ownerA_names (n : Int) : ownerA R L' n = ownerA R L n := by unfold ownerA; rw [scE_names h, ownerF_bare L', ownerF_bare L, bareK_of h]
theorem ownsA_names (n : Int) : ownsA R L' n = ownsA R L n := by unfold ownsA; rw [scE_names h, ownsF_bare L', ownsF_bare L, bareK_of h]
theorem stuckA_names : stuckA R L' = stuckA R L := by unfold stuckA; rw [scE_names h]
theorem same_names : sameS R R L L' = true := by
  unfold sameS
  rw [h, decide_eq_true rfl, Bool.and_true]
  exact eqR_iff.2 rfl
end
end Go.Proofs.Ytfohifnbohdbcaa
