/-
  The reference: Right, Has, Same, Copy.
-/
import Derived.Test.YtjbhliabmaipbaaPiLate
namespace Go.Proofs.Ytjbhliabmaipbaa
open Go.RowKit Go.Shelf
set_option linter.unusedVariables false
set_option linter.unusedSimpArgs false

theorem pidE_bool (a : Int) (l : List Int) : (pidE a l == 0) = (decide (0 ≤ a) && (decide (a ≤ 20) && riseP 0 l)) := by
  unfold pidE
  split
  · rename_i h; rw [h]; rfl
  · rename_i h; rw [Bool.not_eq_true] at h; rw [h]; rfl
set_option maxRecDepth 100000 in
set_option maxHeartbeats 8000000 in
theorem rright_pid (a : Int) (A : Option Addr) (m c : Nat) (l : List Int) (w : World) (hA : Ri7 w w.heap.size A l) (hm : m = l.length) (h6 : m ≤ 1000000) :
    Calls Try.prog 9 #[pdV a A m c] w fun e w' => e = .returned (.bool (pidE a l == 0)) ∧ Below w.heap.size w w' := by
  have k1 := Blk.new w (pdC a A m c) 24
  have B0 := (Below.refl w.heap.size w).alloc (Nat.le_refl _) (.cells (pdC a A m c) 24)
  have q0 : _ = some (Value.int .i64 a) := k1.cell 0
  have q1 : _ = some (Value.slice A m c) := k1.cell 1
  rw [pidE_bool]
  have HM := Lib.hid hm
  clear hm
  unfold pdV pdC at *
  cases h1 : decide (a < 0)
  · cases h2 : decide (20 < a)
    · have e0 : decide (0 ≤ a) = true := by simpa using h1
      have e1 : decide (a ≤ 20) = true := by simpa using h2
      rw [e0, e1, Bool.true_and, Bool.true_and]
      clear e0 e1
      go_enter Try.func9, Try.ntmps9
      go_wp2_with fail
      have hb0 : Blk (w.alloc (.cells #[.int .i64 a, .slice A m c] 24)) w.heap.size #[.int .i64 a, .slice A m c] 24 := k1
      clear q0 q1 k1
      generalize w.alloc (.cells #[.int .i64 a, .slice A m c] 24) = w0 at B0 hb0 ⊢
      go_loopw [16] (fun i wr' => ∃ (k : Nat) (lv : Int) (wr : World), wr = wr' ∧ k ≤ m ∧ i = .int .i64 k ∧ Hid (riseP 0 l = riseP lv (l.drop k)) ∧ Hid ((k = 0 ∧ lv = 0) ∨ (0 < k ∧ lv = l.getD (k - 1) 0 ∧ 1 ≤ lv)) ∧ Blk wr w.heap.size #[.int .i64 a, .slice A m c] 24 ∧ Below w.heap.size w wr) (fun i _ => m - (intOf i).toNat)
      case atStart => exact ⟨0, 0, _, rfl, Nat.zero_le _, rfl, Lib.hid (by simp), Lib.hid (.inl ⟨rfl, rfl⟩), hb0, B0⟩
      case round =>
        clear B0 hb0
        obtain ⟨k, lv, wr, hwr, hk, rfl, hinv, hlv, hbx, hB⟩ := hrel
        subst hwr
        by_cases hlt : k < m
        · have hlt' : (k : Int) < (m : Int) := by omega
          have hkl : k < l.length := by have := HM.out; omega
          obtain ⟨b, off, rfl, hb, hc⟩ := hA.below hB (Nat.le_refl _) k hkl
          have hin := hinv.out
          rw [riseP_drop hkl] at hin
          have hnext : l.getD k 0 = l.getD (k + 1 - 1) 0 := rfl
          have q1 : wr.cell? ⟨w.heap.size, 1, none⟩ = some (.slice (some ⟨b, off, none⟩) m c) := hbx.cell 1
          rcases hlv.out with ⟨hk0, rfl⟩ | ⟨hk0, hl1, hl2⟩
          · have hkp : ¬ (0 : Int) < (k : Int) := by omega
            generalize hy : l.getD k 0 = y at hc hin
            have HK0 := Lib.hid hk0
            clear hk0
            have HY := Lib.hid hy
            clear hy hnext hinv hlv
            cases h3 : decide (y < 1)
            · cases h4 : decide (20 < y)
              · have hi : riseP 0 l = riseP y (l.drop (k + 1)) := by rw [hin, decide_eq_true (by simp at h3; omega : (0 : Int) < y), decide_eq_true (by simpa using h4 : y ≤ 20)]; rfl
                have HI := Lib.hid hi
                have HY1 := Lib.hid (show 1 ≤ y by simpa using h3)
                clear hi hin
                go_wp2_with fail
                go_roundw
                case rel => exact ⟨k + 1, y, _, rfl, by omega, by go_num, HI, Lib.hid (.inr ⟨by omega, HY.out.symm, HY1.out⟩), hbx, hB⟩
                case measure => simp [intOf]; omega
              · have hi : riseP 0 l = false := by rw [hin, decide_eq_false (by simp at h4; omega : ¬ y ≤ 20)]; simp
                have HI := Lib.hid hi
                clear hi hin
                go_wp2_with fail
                go_ret
                exact ⟨by rw [HI.out]; rfl, hB⟩
            · have hi : riseP 0 l = false := by rw [hin, decide_eq_false (by simp at h3; omega : ¬ (0 : Int) < y)]; simp
              have HI := Lib.hid hi
              clear hi hin
              go_wp2_with fail
              go_ret
              exact ⟨by rw [HI.out]; rfl, hB⟩
          · obtain ⟨b', off', eb, _, hc1⟩ := hA.below hB (Nat.le_refl _) (k - 1) (by omega)
            cases eb
            rw [← hl1] at hc1
            generalize hy : l.getD k 0 = y at hc hin
            have HY := Lib.hid hy
            have hk1 : IntKind.i64.wrap ((k : Int) - 1) = ((k - 1 : Nat) : Int) := by rw [IntKind.wrap_i64]; omega
            have hkp : (0 : Int) < (k : Int) := by omega
            have e5 : ((k : Int) - 1) = ((k - 1 : Nat) : Int) := by omega
            have e6 : ((k : Int) - 1).toNat = k - 1 := by omega
            have hl2' := Lib.hid hl2
            clear hy hnext hinv hlv hl1 hl2
            cases h3 : decide (y < 1)
            · cases h4 : decide (20 < y)
              · cases h5 : decide (y ≤ lv)
                · have hi : riseP 0 l = riseP y (l.drop (k + 1)) := by rw [hin, decide_eq_true (by simpa using h5 : lv < y), decide_eq_true (by simpa using h4 : y ≤ 20)]; rfl
                  have HI := Lib.hid hi
                  have HY1 := Lib.hid (show 1 ≤ y by simpa using h3)
                  clear hi hin
                  go_wp2_with fail
                  go_roundw
                  case rel => exact ⟨k + 1, y, _, rfl, by omega, by go_num, HI, Lib.hid (.inr ⟨by omega, HY.out.symm, HY1.out⟩), hbx, hB⟩
                  case measure => simp [intOf]; omega
                · have hi : riseP 0 l = false := by rw [hin, decide_eq_false (by simp at h5; omega : ¬ lv < y)]; simp
                  have HI := Lib.hid hi
                  clear hi hin
                  go_wp2_with fail
                  go_ret
                  exact ⟨by rw [HI.out]; rfl, hB⟩
              · have hi : riseP 0 l = false := by rw [hin, decide_eq_false (by simp at h4; omega : ¬ y ≤ 20)]; simp
                have HI := Lib.hid hi
                clear hi hin
                go_wp2_with fail
                go_ret
                exact ⟨by rw [HI.out]; rfl, hB⟩
            · have hi : riseP 0 l = false := by rw [hin, decide_eq_false (by simp at h3; have := hl2'.out; omega : ¬ lv < y)]; simp
              have HI := Lib.hid hi
              clear hi hin
              go_wp2_with fail
              go_ret
              exact ⟨by rw [HI.out]; rfl, hB⟩
        · obtain rfl : k = m := by omega
          have hi := hinv.out
          rw [HM.out, List.drop_length] at hi
          have HI := Lib.hid hi
          clear hi
          go_wp2_with fail
          go_ret
          exact ⟨by rw [HI.out]; rfl, hB⟩
    · have e1 : decide (a ≤ 20) = false := by simp at h2 ⊢; omega
      rw [e1, Bool.false_and, Bool.and_false]
      clear e1
      go_enter Try.func9, Try.ntmps9
      go_wp2_with fail
      go_ret
      exact ⟨rfl, B0⟩
  · have e1 : decide (0 ≤ a) = false := by simp at h1 ⊢; omega
    rw [e1, Bool.false_and]
    clear e1
    go_enter Try.func9, Try.ntmps9
    go_wp2_with fail
    go_ret
    exact ⟨rfl, B0⟩
theorem has_drop {l : List Int} {k : Nat} {x : Int} (h : k < l.length) : (l.drop k).contains x = ((l.getD k 0 == x) || (l.drop (k + 1)).contains x) := by
  rw [List.drop_eq_getElem_cons h, List.contains_cons]
  have e : l.getD k 0 = l[k] := by simp [List.getD, h]
  rw [e]
  congr 1
  rw [Bool.eq_iff_iff, beq_iff_eq, beq_iff_eq]
  exact eq_comm
set_option maxRecDepth 100000 in
set_option maxHeartbeats 4000000 in
theorem rhas_pid (a : Int) (A : Option Addr) (m c : Nat) (l : List Int) (x : Int) (w : World) (hA : Ri7 w w.heap.size A l) (hm : m = l.length) (h6 : m ≤ 1000000) :
    Calls Try.prog 19 #[pdV a A m c, .int .i64 x] w fun e w' => e = .returned (.bool (l.contains x)) ∧ Below w.heap.size w w' := by
  have k1 := Blk.new w (pdC a A m c) 24
  have B0 := (Below.refl w.heap.size w).alloc (Nat.le_refl _) (.cells (pdC a A m c) 24)
  have q1 : _ = some (Value.slice A m c) := k1.cell 1
  have HM := Lib.hid hm
  clear hm
  unfold pdV pdC at *
  go_enter Try.func19, Try.ntmps19
  go_wp2_with fail
  clear q1 k1
  generalize w.alloc (.cells #[.int .i64 a, .slice A m c] 24) = w0 at B0 ⊢
  go_loopw [10] (fun i wr' => ∃ (k : Nat) (wr : World), wr = wr' ∧ k ≤ m ∧ i = .int .i64 k ∧ Hid (l.contains x = (l.drop k).contains x) ∧ Below w.heap.size w wr) (fun i _ => m - (intOf i).toNat)
  case atStart => exact ⟨0, _, rfl, Nat.zero_le _, rfl, Lib.hid (by simp), B0⟩
  case round =>
    clear B0
    obtain ⟨k, wr, hwr, hk, rfl, hinv, hB⟩ := hrel
    subst hwr
    by_cases hlt : k < m
    · have hlt' : (k : Int) < (m : Int) := by omega
      have hkl : k < l.length := by have := HM.out; omega
      obtain ⟨b, off, rfl, hb, hc⟩ := hA.below hB (Nat.le_refl _) k hkl
      have hin := hinv.out
      rw [has_drop hkl] at hin
      generalize l.getD k 0 = y at hc hin
      clear hinv
      cases h3 : (y == x)
      · rw [h3, Bool.false_or] at hin
        have HI := Lib.hid hin
        clear hin
        go_wp2_with fail
        go_roundw
        case rel => exact ⟨k + 1, _, rfl, by omega, by go_num, HI, hB⟩
        case measure => simp [intOf]; omega
      · rw [h3, Bool.true_or] at hin
        have HI := Lib.hid hin
        clear hin
        go_wp2_with fail
        go_ret
        exact ⟨by rw [HI.out]; rfl, hB⟩
    · obtain rfl : k = m := by omega
      have hi := hinv.out
      rw [HM.out, List.drop_length] at hi
      have HI := Lib.hid hi
      clear hi
      go_wp2_with fail
      go_ret
      exact ⟨by rw [HI.out]; rfl, hB⟩
end Go.Proofs.Ytjbhliabmaipbaa
