/-
  The reference's Run, Lock, count, SameInts, Ready.
-/
import Derived.Test.YtfohifnbohdbcaaQScSm
namespace Go.Proofs.Ytfohifnbohdbcaa
open Go.RowKit Go.Shelf
set_option linter.unusedVariables false
set_option linter.unusedSimpArgs false
def fndR (L : List Rn) (n : Int) : Rn × Bool := match runF L n with | some x => (x, true) | none => (rn0, false)
theorem runF_drop {L : List Rn} {k : Nat} (h : k < L.length) (n : Int) : runF (L.drop k) n = if (numR (L.getD k rn0) == n) = true then some (L.getD k rn0) else runF (L.drop (k + 1)) n := by
  rw [List.drop_eq_getElem_cons h, show L.getD k rn0 = L[k] by simp [List.getD, h]]
  unfold runF
  rw [List.find?_cons]
  unfold numR
  split <;> simp_all
theorem fndR_drop {L : List Rn} {k : Nat} (h : k < L.length) (n : Int) : fndR (L.drop k) n = if (numR (L.getD k rn0) == n) = true then (L.getD k rn0, true) else fndR (L.drop (k + 1)) n := by
  unfold fndR
  rw [runF_drop h]
  cases (numR (L.getD k rn0) == n) <;> rfl
set_option maxRecDepth 100000 in
set_option maxHeartbeats 4000000 in
theorem find_R (A : Option Addr) (m c : Nat) (R : List Rn) (A2 : Option Addr) (m2 c2 : Nat) (L : List Kw) (n : Int) (w : World) (h : Sc w w.heap.size A m c R A2 m2 c2 L) :
    Calls Try.prog 38 #[scV A m c A2 m2 c2, .int .i64 n] w fun e w' => e = .returned (.tuple #[rnV (fndR R n).1, .bool (fndR R n).2]) ∧ Below w.heap.size w w' := by
  have k1 := (Blk.new w (scC A m c A2 m2 c2) 25).alloc (.cells (rnC rn0) 52)
  have k3 := Blk.new_ (w.alloc (.cells (scC A m c A2 m2 c2) 25)) (rnC rn0) 52 (n := w.heap.size + 1) (by simp)
  have B0 := ((Below.refl w.heap.size w).alloc (Nat.le_refl _) (.cells (scC A m c A2 m2 c2) 25)).alloc (by simp) (.cells (rnC rn0) 52)
  have HM := Lib.hid h.len
  have HS := Lib.hid h.rs
  have hm6 : m ≤ 100000 := h.lim
  obtain ⟨E, hE⟩ : ∃ E, fndR R n = E := ⟨_, rfl⟩
  rw [hE]
  have HE := Lib.hid hE
  clear hE h
  unfold scV at *
  go_enter Try.func38, Try.ntmps38
  go_wp2_with fail
  go_loopw [6] (fun i wr' => ∃ (k : Nat) (wr : World), wr = wr' ∧ k ≤ m ∧ i = .int .i64 k ∧ Hid (E = fndR (R.drop k) n) ∧ Below w.heap.size w wr ∧ Blk wr w.heap.size (scC A m c A2 m2 c2) 25 ∧ Blk wr (w.heap.size + 1) (rnC rn0) 52) (fun i _ => m - (intOf i).toNat)
  case atStart => exact ⟨0, _, rfl, Nat.zero_le _, rfl, Lib.hid (by rw [List.drop_zero, HE.out]), B0, k1, k3⟩
  case round =>
    clear B0 k1 k3 HE
    obtain ⟨k, wr, hwr, hk, rfl, HI, hB, kB, k3⟩ := hrel
    subst hwr
    have q0 : wr.cell? ⟨w.heap.size, 0, none⟩ = some (.slice A m c) := kB.cell 0
    by_cases hlt : k < m
    · have hlt' : (k : Int) < (m : Int) := by omega
      have hkl : k < R.length := by have := HM.out; omega
      obtain ⟨b, off, rfl, hb, hc⟩ := (HS.out.below hB (Nat.le_refl _)) k hkl
      have hI := HI.out
      rw [fndR_drop hkl] at hI
      clear HI hkl
      generalize R.getD k rn0 = x at hc hI
      have hs3 : (rnC x).size = 3 := rn_size x
      have q3 : wr.cell? ⟨b, off + k * 3, none⟩ = some (.int .i64 (numR x)) := hc 0 _ rfl
      cases hx : (numR x == n)
      · rw [hx, if_neg (by simp)] at hI
        have HI := Lib.hid hI
        clear hI hc
        generalize numR x = z at *
        go_wp2_with fail
        go_roundw
        case rel => exact ⟨k + 1, _, rfl, by omega, by go_num, HI, hB, kB, k3⟩
        case measure => simp [intOf]; omega
      · rw [hx, if_pos rfl] at hI
        have HI := Lib.hid hI
        clear hI
        generalize numR x = z at *
        go_wp2_with (first
          | (refine wpList_load_mid rfl 52 (.tmp 25) rfl b (off + k * 3) rfl (rnC x).toList _ hc Try.underlying52 rfl (rn_infL x) ?_)
          | (refine wpList_store_blk rfl 52 (.tmp 4) (.tmp 26) rfl (w.heap.size + 1) (rnC rn0) (rnC x) 52 rfl rfl k3 rfl (rn_inf x) (rn_one x) ?_
             intro w3 h3 n3))
        refine bodyPost_ret (results_row_tmp rfl _ _ (w.heap.size + 1) 52 (rnC x) (0, 0) _ rfl h3.blk Try.underlying52 rfl (rn_inf x) _ rfl) rfl ?_
        exact ⟨by rw [HI.out]; rfl, hB.trans (n3.below _ (by omega) hB.size)⟩
    · obtain rfl : k = m := by omega
      have hI := HI.out
      rw [List.drop_of_length_le (by have := HM.out; omega)] at hI
      have HI := Lib.hid hI
      clear hI
      go_wp2_with (first
        | (refine wpList_store_blk rfl 52 (.tmp 4) (.tmp 27) rfl (w.heap.size + 1) (rnC rn0) (rnC rn0) 52 rfl rfl k3 rfl (rn_inf rn0) (rn_one rn0) ?_
           intro w3 h3 n3))
      refine bodyPost_ret (results_row_tmp rfl _ _ (w.heap.size + 1) 52 (rnC rn0) (0, 0) _ rfl h3.blk Try.underlying52 rfl (rn_inf rn0) _ rfl) rfl ?_
      exact ⟨by rw [HI.out]; rfl, hB.trans (n3.below _ (by omega) hB.size)⟩
def fndK (L : List Kw) (n : Int) : Kw × Bool := match lockF L n with | some x => (x, true) | none => (kw0, false)
theorem lockF_drop {L : List Kw} {k : Nat} (h : k < L.length) (n : Int) : lockF (L.drop k) n = if (numK (L.getD k kw0) == n) = true then some (L.getD k kw0) else lockF (L.drop (k + 1)) n := by
  rw [List.drop_eq_getElem_cons h, show L.getD k kw0 = L[k] by simp [List.getD, h]]
  unfold lockF
  rw [List.find?_cons]
  unfold numK
  split <;> simp_all
theorem fndK_drop {L : List Kw} {k : Nat} (h : k < L.length) (n : Int) : fndK (L.drop k) n = if (numK (L.getD k kw0) == n) = true then (L.getD k kw0, true) else fndK (L.drop (k + 1)) n := by
  unfold fndK
  rw [lockF_drop h]
  cases (numK (L.getD k kw0) == n) <;> rfl
set_option maxRecDepth 100000 in
set_option maxHeartbeats 4000000 in
theorem find_K (A : Option Addr) (m c : Nat) (R : List Rn) (A2 : Option Addr) (m2 c2 : Nat) (L : List Kw) (n : Int) (w : World) (h : Sc w w.heap.size A m c R A2 m2 c2 L) :
    Calls Try.prog 32 #[scV A m c A2 m2 c2, .int .i64 n] w fun e w' => e = .returned (.tuple #[kwV (fndK L n).1, .bool (fndK L n).2]) ∧ Below w.heap.size w w' := by
  have k1 := (Blk.new w (scC A m c A2 m2 c2) 25).alloc (.cells (kwC kw0) 48)
  have k3 := Blk.new_ (w.alloc (.cells (scC A m c A2 m2 c2) 25)) (kwC kw0) 48 (n := w.heap.size + 1) (by simp)
  have B0 := ((Below.refl w.heap.size w).alloc (Nat.le_refl _) (.cells (scC A m c A2 m2 c2) 25)).alloc (by simp) (.cells (kwC kw0) 48)
  have HM := Lib.hid h.len2
  have HS := Lib.hid h.ks
  have hm6 : m2 ≤ 100000 := h.lim2
  obtain ⟨E, hE⟩ : ∃ E, fndK L n = E := ⟨_, rfl⟩
  rw [hE]
  have HE := Lib.hid hE
  clear hE h
  unfold scV at *
  go_enter Try.func32, Try.ntmps32
  go_wp2_with fail
  go_loopw [6] (fun i wr' => ∃ (k : Nat) (wr : World), wr = wr' ∧ k ≤ m2 ∧ i = .int .i64 k ∧ Hid (E = fndK (L.drop k) n) ∧ Below w.heap.size w wr ∧ Blk wr w.heap.size (scC A m c A2 m2 c2) 25 ∧ Blk wr (w.heap.size + 1) (kwC kw0) 48) (fun i _ => m2 - (intOf i).toNat)
  case atStart => exact ⟨0, _, rfl, Nat.zero_le _, rfl, Lib.hid (by rw [List.drop_zero, HE.out]), B0, k1, k3⟩
  case round =>
    clear B0 k1 k3 HE
    obtain ⟨k, wr, hwr, hk, rfl, HI, hB, kB, k3⟩ := hrel
    subst hwr
    have q0 : wr.cell? ⟨w.heap.size, 1, none⟩ = some (.slice A2 m2 c2) := kB.cell 1
    by_cases hlt : k < m2
    · have hlt' : (k : Int) < (m2 : Int) := by omega
      have hkl : k < L.length := by have := HM.out; omega
      obtain ⟨b, off, rfl, hb, hc⟩ := (HS.out.below hB (Nat.le_refl _)) k hkl
      have hI := HI.out
      rw [fndK_drop hkl] at hI
      clear HI hkl
      generalize L.getD k kw0 = x at hc hI
      have hs3 : (kwC x).size = 3 := kw_size x
      have q3 : wr.cell? ⟨b, off + k * 3, none⟩ = some (.int .i64 (numK x)) := hc 0 _ rfl
      cases hx : (numK x == n)
      · rw [hx, if_neg (by simp)] at hI
        have HI := Lib.hid hI
        clear hI hc
        generalize numK x = z at *
        go_wp2_with fail
        go_roundw
        case rel => exact ⟨k + 1, _, rfl, by omega, by go_num, HI, hB, kB, k3⟩
        case measure => simp [intOf]; omega
      · rw [hx, if_pos rfl] at hI
        have HI := Lib.hid hI
        clear hI
        generalize numK x = z at *
        go_wp2_with (first
          | (refine wpList_load_mid rfl 48 (.tmp 25) rfl b (off + k * 3) rfl (kwC x).toList _ hc Try.underlying48 rfl (kw_infL x) ?_)
          | (refine wpList_store_blk rfl 48 (.tmp 4) (.tmp 26) rfl (w.heap.size + 1) (kwC kw0) (kwC x) 48 rfl rfl k3 rfl (kw_inf x) (kw_one x) ?_
             intro w3 h3 n3))
        refine bodyPost_ret (results_row_tmp rfl _ _ (w.heap.size + 1) 48 (kwC x) (0, 0) _ rfl h3.blk Try.underlying48 rfl (kw_inf x) _ rfl) rfl ?_
        exact ⟨by rw [HI.out]; rfl, hB.trans (n3.below _ (by omega) hB.size)⟩
    · obtain rfl : k = m2 := by omega
      have hI := HI.out
      rw [List.drop_of_length_le (by have := HM.out; omega)] at hI
      have HI := Lib.hid hI
      clear hI
      go_wp2_with (first
        | (refine wpList_store_blk rfl 48 (.tmp 4) (.tmp 27) rfl (w.heap.size + 1) (kwC kw0) (kwC kw0) 48 rfl rfl k3 rfl (kw_inf kw0) (kw_one kw0) ?_
           intro w3 h3 n3))
      refine bodyPost_ret (results_row_tmp rfl _ _ (w.heap.size + 1) 48 (kwC kw0) (0, 0) _ rfl h3.blk Try.underlying48 rfl (kw_inf kw0) _ rfl) rfl ?_
      exact ⟨by rw [HI.out]; rfl, hB.trans (n3.below _ (by omega) hB.size)⟩
set_option maxRecDepth 100000 in
set_option maxHeartbeats 4000000 in
theorem count_rf (A : Option Addr) (m c : Nat) (l : List Int) (n : Int) (w : World) (hA : Ri7 w w.heap.size A l) (hm : m = l.length) (h6 : m ≤ 1000000) :
    Calls Try.prog 67 #[.slice A m c, .int .i64 n] w fun e w' => e = .returned (.int .i64 (l.count n : Nat)) ∧ w' = w := by
  have HM := Lib.hid hm
  clear hm
  go_enter Try.func67, Try.ntmps67
  go_wp2_with fail
  go_loopw [5, 6] (fun p i wr' => ∃ (k p0 : Nat) (wr : World), wr = wr' ∧ k ≤ m ∧ p0 ≤ k ∧ i = .int .i64 k ∧ p = .int .i64 p0 ∧ Hid (p0 = (l.take k).count n) ∧ Hid (wr = w)) (fun _ i _ => m - (intOf i).toNat)
  case atStart => exact ⟨0, 0, _, rfl, Nat.zero_le _, Nat.le_refl _, rfl, rfl, Lib.hid (by simp), Lib.hid rfl⟩
  case round =>
    obtain ⟨k, p0, wr, hwr, hk, hpk, rfl, rfl, HI, HW⟩ := hrel
    subst hwr
    by_cases hlt : k < m
    · have hlt' : (k : Int) < (m : Int) := by omega
      have hkl : k < l.length := by have := HM.out; omega
      have hAr : Ri7 wr w.heap.size A l := by rw [HW.out]; exact hA
      obtain ⟨b, off, rfl, hb, hc⟩ := hAr k hkl
      have hI : (l.take (k + 1)).count n = p0 + (if (l.getD k 0 == n) = true then 1 else 0) := by
        rw [List.take_succ_eq_append_getElem hkl, List.count_append, ← HI.out, show l.getD k 0 = l[k] by simp [List.getD, hkl], List.count_singleton]
      clear HI hkl hAr
      generalize l.getD k 0 = y at hc hI
      cases hq : (y == n)
      · rw [hq, if_neg (by simp)] at hI
        have HI := Lib.hid hI
        clear hI
        go_wp2_with fail
        go_roundw
        case rel => exact ⟨k + 1, p0, _, rfl, by omega, by omega, by go_num, rfl, Lib.hid HI.out.symm, HW⟩
        case measure => simp [intOf]; omega
      · rw [hq, if_pos rfl] at hI
        have HI := Lib.hid hI
        clear hI
        go_wp2_with fail
        go_roundw
        case rel => exact ⟨k + 1, p0 + 1, _, rfl, by omega, by omega, by go_num, by go_num, Lib.hid HI.out.symm, HW⟩
        case measure => simp [intOf]; omega
    · obtain rfl : k = m := by omega
      have hI := HI.out
      rw [List.take_of_length_le (by have := HM.out; omega)] at hI
      have HI := Lib.hid hI
      clear hI
      go_wp2_with fail
      go_ret
      exact ⟨by rw [HI.out]; rfl, HW.out⟩
set_option maxRecDepth 100000 in
set_option maxHeartbeats 4000000 in
theorem sameInts_rf (A : Option Addr) (m c : Nat) (l : List Int) (A2 : Option Addr) (m2 c2 : Nat) (l2 : List Int) (w : World) (hA : Ri7 w w.heap.size A l) (hm : m = l.length) (h6 : m ≤ 1000000) (hA2 : Ri7 w w.heap.size A2 l2) (hm2 : m2 = l2.length) :
    Calls Try.prog 31 #[.slice A m c, .slice A2 m2 c2] w fun e w' => e = .returned (.bool (l == l2)) ∧ Below w.heap.size w w' := by
  have B0 := Below.refl w.heap.size w
  have HM := Lib.hid hm
  have HM2 := Lib.hid hm2
  clear hm hm2
  by_cases hmm : m = m2
  · subst hmm
    go_enter Try.func31, Try.ntmps31
    go_wp2_with fail
    go_loopw [5] (fun i wr' => ∃ (k : Nat) (wr : World), wr = wr' ∧ k ≤ m ∧ i = .int .i64 k ∧ (l == l2) = (l.drop k == l2.drop k) ∧ Below w.heap.size w wr) (fun i _ => m - (intOf i).toNat)
    case atStart => exact ⟨0, _, rfl, Nat.zero_le _, rfl, by simp, B0⟩
    case round =>
      clear B0
      obtain ⟨k, wr, hwr, hk, rfl, hinv, hB⟩ := hrel
      subst hwr
      by_cases hlt : k < m
      · have hlt' : (k : Int) < (m : Int) := by omega
        have hkl : k < l.length := by have := HM.out; omega
        have hkl2 : k < l2.length := by have := HM2.out; omega
        obtain ⟨b, off, rfl, hb, hc⟩ := hA.below hB (Nat.le_refl _) k hkl
        obtain ⟨b2, off2, rfl, hb2, hc2⟩ := hA2.below hB (Nat.le_refl _) k hkl2
        rw [eq_drop hkl hkl2] at hinv
        generalize l.getD k 0 = y at hc hinv
        generalize l2.getD k 0 = y2 at hc2 hinv
        cases h1 : (y == y2)
        · rw [h1] at hinv
          have HI := Lib.hid hinv
          clear hinv
          go_wp2_with fail
          go_region
          all_goals
            go_wp2_with fail
            go_ret
            exact ⟨by rw [HI.out]; rfl, by first | exact hB.drew | exact hB⟩
        · rw [h1, Bool.true_and] at hinv
          have HI := Lib.hid hinv
          clear hinv
          go_wp2_with fail
          go_region
          all_goals
            go_wp2_with fail
            go_roundw
            case rel => exact ⟨k + 1, _, rfl, by omega, by go_num, HI.out, by first | exact hB.drew | exact hB⟩
            case measure => simp [intOf]; omega
      · obtain rfl : k = m := by omega
        have hi : (l == l2) = true := by rw [hinv]; conv => lhs; rw [HM.out, List.drop_length, ← HM.out, HM2.out, List.drop_length]
                                         rfl
        have HI := Lib.hid hi
        clear hinv hi
        go_wp2_with fail
        go_ret
        exact ⟨by rw [HI.out]; rfl, hB⟩
  · have hi : (l == l2) = false := by
      rw [beq_eq_false_iff_ne]
      intro e
      exact hmm (by rw [HM.out, HM2.out, e])
    have hne : ((m : Int) == (m2 : Int)) = false := by simp; omega
    have HI := Lib.hid hi
    have HN := Lib.hid hmm
    clear hi hmm
    go_enter Try.func31, Try.ntmps31
    go_wp2_with fail
    go_ret
    exact ⟨by rw [HI.out]; rfl, B0⟩
end Go.Proofs.Ytfohifnbohdbcaa
