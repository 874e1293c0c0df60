/-
  pids.rise, Check, place, Has, Same.
-/
import Derived.Test.YtjbhliabmaipbaaPiR
namespace Go.Proofs.Ytjbhliabmaipbaa
open Go.RowKit Go.Shelf
set_option linter.unusedVariables false
set_option linter.unusedSimpArgs false

/-- Ids, as a value; their cells. -/
def pdC (a : Int) (A : Option Addr) (m c : Nat) : Array Value := #[.int .i64 a, .slice A m c]
def pdV (a : Int) (A : Option Addr) (m c : Nat) : Value := .agg (pdC a A m c)
theorem pd_inf (a : Int) (A : Option Addr) (m c : Nat) : (Try.prog.info? 24).map (·.size) = some (pdC a A m c).size := by
  show _ = some 2
  kernel_rfl
theorem pd_one (a : Int) (A : Option Addr) (m c : Nat) : (pdC a A m c).all (·.oneCell') = true := by simp [pdC, Value.oneCell']
theorem riseP_drop {l : List Int} {k : Nat} {p : Int} (h : k < l.length) : riseP p (l.drop k) = (decide (p < l.getD k 0) && (decide (l.getD k 0 ≤ 20) && riseP (l.getD k 0) (l.drop (k + 1)))) := by
  rw [List.drop_eq_getElem_cons h, riseP]
  simp [List.getD, h]
set_option maxRecDepth 100000 in
set_option maxHeartbeats 2000000 in
theorem prise_any (A : Option Addr) (m c : Nat) (l : List Int) (w : World) (hA : Ri7 w w.heap.size A l) (hm : m = l.length) (h6 : m ≤ 1000000) :
    Calls Try.prog 26 #[.slice A m c] w fun e w' => e = .returned (.bool (riseP 0 l)) ∧ Below w.heap.size w w' := by
  have B0 := Below.refl w.heap.size w
  have HM := Lib.hid hm
  clear hm
  go_enter Try.func26, Try.ntmps26
  go_wp2_with fail
  go_loopw [3, 8] (fun q i wr' => ∃ (k : Nat) (lv : Int) (wr : World), wr = wr' ∧ k ≤ m ∧ i = .int .i64 k ∧ q = .int .i64 lv ∧ riseP 0 l = riseP lv (l.drop k) ∧ Below w.heap.size w wr) (fun _ i _ => m - (intOf i).toNat)
  case atStart => exact ⟨0, 0, _, rfl, Nat.zero_le _, rfl, rfl, by simp, B0⟩
  case round =>
    clear B0
    obtain ⟨k, lv, wr, hwr, hk, rfl, rfl, hinv, hB⟩ := hrel
    subst hwr
    by_cases hlt : k < m
    · have hlt' : (k : Int) < (m : Int) := by omega
      have hkl : k < l.length := by have := HM.out; omega
      obtain ⟨b, off, rfl, hb, hc⟩ := hA.below hB (Nat.le_refl _) k hkl
      rw [riseP_drop hkl] at hinv
      generalize l.getD k 0 = y at hc hinv
      cases h1 : decide (y ≤ lv)
      · cases h2 : decide (20 < y)
        · have hi : riseP 0 l = riseP y (l.drop (k + 1)) := by
            rw [hinv, decide_eq_true (by simpa using h1 : lv < y), decide_eq_true (by simpa using h2 : y ≤ 20)]; rfl
          have HI := Lib.hid hi
          clear hi hinv
          go_wp2_with fail
          go_roundw
          case rel => exact ⟨k + 1, y, _, rfl, by omega, by go_num, rfl, HI.out, hB⟩
          case measure => simp [intOf]; omega
        · have hi : riseP 0 l = false := by
            rw [hinv, decide_eq_false (by simp at h2; omega : ¬ y ≤ 20)]; simp
          have HI := Lib.hid hi
          clear hi hinv
          go_wp2_with fail
          go_ret
          exact ⟨by rw [HI.out]; rfl, hB⟩
      · have hi : riseP 0 l = false := by
          rw [hinv, decide_eq_false (by simp at h1; omega : ¬ lv < y)]; simp
        have HI := Lib.hid hi
        clear hi hinv
        go_wp2_with fail
        go_ret
        exact ⟨by rw [HI.out]; rfl, hB⟩
    · obtain rfl : k = m := by omega
      rw [HM.out, List.drop_length] at hinv
      have HI := Lib.hid hinv
      clear hinv
      go_wp2_with fail
      go_ret
      exact ⟨by rw [HI.out]; rfl, hB⟩
set_option maxRecDepth 100000 in
set_option maxHeartbeats 2000000 in
theorem pcheck_pid (a : Int) (A : Option Addr) (m c : Nat) (l : List Int) (w : World) (hA : Ri7 w w.heap.size A l) (hm : m = l.length) (h6 : m ≤ 1000000) :
    Calls Try.prog 16 #[pdV a A m c] w fun e w' => e = .returned (.int .i64 (pidE a l)) ∧ Below w.heap.size w w' := by
  have k1 := Blk.new w (pdC a A m c) 24
  have B0 := (Below.refl w.heap.size w).alloc (Nat.le_refl _) (.cells (pdC a A m c) 24)
  have q0 : _ = some (Value.int .i64 a) := k1.cell 0
  have q1 : _ = some (Value.slice A m c) := k1.cell 1
  have hr := prise_any A m c l _ ((hA.below B0 (Nat.le_refl _)).more B0.size) hm h6
  have he : pidE a l = if decide (a < 0) then 200 else if decide (20 < a) then 200 else if riseP 0 l then 0 else 200 := by
    unfold pidE
    by_cases h1 : a < 0
    · rw [if_neg (by simp; omega), if_pos (by simpa using h1)]
    · rw [if_neg (c := decide (a < 0) = true) (by simpa using h1)]
      by_cases h2 : 20 < a
      · rw [if_neg (by simp; omega), if_pos (by simpa using h2)]
      · rw [if_neg (c := decide (20 < a) = true) (by simpa using h2), decide_eq_true (by omega : 0 ≤ a), decide_eq_true (by omega : a ≤ 20)]; rfl
  generalize riseP 0 l = rb at hr he
  obtain ⟨E, hE⟩ : ∃ E, pidE a l = E := ⟨_, rfl⟩
  rw [hE] at he ⊢
  clear hE hm
  unfold pdV pdC at *
  cases h1 : decide (a < 0)
  · cases h2 : decide (20 < a)
    · rw [h1, h2] at he
      cases rb
      · have HE := Lib.hid he
        clear he
        go_enter Try.func16, Try.ntmps16
        go_wp2_with (refine hr.mono ?_; rintro e w1 ⟨rfl, b1⟩)
        go_ret
        exact ⟨by rw [HE.out]; rfl, B0.trans (b1.mono B0.size)⟩
      · have HE := Lib.hid he
        clear he
        go_enter Try.func16, Try.ntmps16
        go_wp2_with (refine hr.mono ?_; rintro e w1 ⟨rfl, b1⟩)
        go_ret
        exact ⟨by rw [HE.out]; rfl, B0.trans (b1.mono B0.size)⟩
    · rw [h1, h2] at he
      have HE := Lib.hid he
      clear he
      go_enter Try.func16, Try.ntmps16
      go_wp2_with fail
      go_ret
      exact ⟨by rw [HE.out]; rfl, B0⟩
  · rw [h1] at he
    have HE := Lib.hid he
    clear he
    go_enter Try.func16, Try.ntmps16
    go_wp2_with fail
    go_ret
    exact ⟨by rw [HE.out]; rfl, B0⟩
set_option maxRecDepth 100000 in
theorem place_pid (a : Int) (A : Option Addr) (m c : Nat) (l : List Int) (x : Int) (w : World) (hA : Ri7 w w.heap.size A l) (hm : m = l.length) (h6 : m ≤ 1000000) (hu : l.Pairwise (· < ·)) :
    Calls Try.prog 22 #[pdV a A m c, .int .i64 x] w fun e w' => e = .returned (.tuple #[.int .i64 (lessP l x : Nat), .bool (l.contains x)]) ∧ Below w.heap.size w w' := by
  have k1 := Blk.new w (pdC a A m c) 24
  have B0 := (Below.refl w.heap.size w).alloc (Nat.le_refl _) (.cells (pdC a A m c) 24)
  have q1 : _ = some (Value.slice A m c) := k1.cell 1
  have hr := search_any A m c l x _ ((hA.below B0 (Nat.le_refl _)).more B0.size) hm h6 hu
  generalize lessP l x = k at hr ⊢
  generalize l.contains x = rb at hr ⊢
  clear hm hu
  unfold pdV pdC at *
  go_enter Try.func22, Try.ntmps22
  go_wp2_with (refine hr.mono ?_; rintro e w1 ⟨rfl, b1⟩)
  refine bodyPost_ret (results_tmp2 rfl _ _ _) rfl ?_
  exact ⟨rfl, B0.trans (b1.mono B0.size)⟩
set_option maxRecDepth 100000 in
theorem has_pid (a : Int) (A : Option Addr) (m c : Nat) (l : List Int) (x : Int) (w : World) (hA : Ri7 w w.heap.size A l) (hm : m = l.length) (hmc : m ≤ c) (h6 : m ≤ 1000000) :
    Calls Try.prog 18 #[pdV a A m c, .int .i64 x] w fun e w' => e = .returned (.bool (l.contains x)) ∧ Below w.heap.size w w' := by
  have k1 := Blk.new w (pdC a A m c) 24
  have B0 := (Below.refl w.heap.size w).alloc (Nat.le_refl _) (.cells (pdC a A m c) 24)
  have q1 : _ = some (Value.slice A m c) := k1.cell 1
  have hr := containsZ_any A m c l x _ ((hA.below B0 (Nat.le_refl _)).more B0.size) hm hmc h6
  generalize l.contains x = rb at hr ⊢
  clear hm
  unfold pdV pdC at *
  go_enter Try.func18, Try.ntmps18
  go_wp2_with (refine hr.mono ?_; rintro e w1 ⟨rfl, b1⟩)
  go_ret
  exact ⟨rfl, B0.trans (b1.mono B0.size)⟩
/-- Are two lists the same, from a place on? -/
theorem eq_drop {l p : List Int} {k : Nat} (h : k < l.length) (h' : k < p.length) : (l.drop k == p.drop k) = ((l.getD k 0 == p.getD k 0) && (l.drop (k + 1) == p.drop (k + 1))) := by
  have e1 : l.getD k 0 = l[k] := by simp [List.getD, h]
  have e2 : p.getD k 0 = p[k] := by simp [List.getD, h']
  rw [e1, e2, List.drop_eq_getElem_cons h, List.drop_eq_getElem_cons h', List.cons_beq_cons]
set_option maxRecDepth 100000 in
set_option maxHeartbeats 2000000 in
theorem equalZ_any (A : Option Addr) (m c : Nat) (l : List Int) (A2 : Option Addr) (m2 c2 : Nat) (l2 : List Int) (w : World) (hA : Ri7 w w.heap.size A l) (hm : m = l.length) (h6 : m ≤ 1000000) (hA2 : Ri7 w w.heap.size A2 l2) (hm2 : m2 = l2.length) :
    Calls Try.prog 27 #[.slice A m c, .slice A2 m2 c2] w fun e w' => e = .returned (.bool (l == l2)) ∧ Below w.heap.size w w' := by
  have B0 := Below.refl w.heap.size w
  have HM := Lib.hid hm
  have HM2 := Lib.hid hm2
  clear hm hm2
  by_cases hmm : m = m2
  · subst hmm
    go_enter Try.func27, Try.ntmps27
    go_wp2_with fail
    go_loopw [13] (fun i wr' => ∃ (k : Nat) (wr : World), wr = wr' ∧ k ≤ m ∧ i = .int .i64 k ∧ (l == l2) = (l.drop k == l2.drop k) ∧ Below w.heap.size w wr) (fun i _ => m - (intOf i).toNat)
    case atStart => exact ⟨0, _, rfl, Nat.zero_le _, rfl, by simp, B0⟩
    case round =>
      clear B0
      obtain ⟨k, wr, hwr, hk, rfl, hinv, hB⟩ := hrel
      subst hwr
      by_cases hlt : k < m
      · have hlt' : (k : Int) < (m : Int) := by omega
        have hkl : k < l.length := by have := HM.out; omega
        have hkl2 : k < l2.length := by have := HM2.out; omega
        obtain ⟨b, off, rfl, hb, hc⟩ := hA.below hB (Nat.le_refl _) k hkl
        obtain ⟨b2, off2, rfl, hb2, hc2⟩ := hA2.below hB (Nat.le_refl _) k hkl2
        rw [eq_drop hkl hkl2] at hinv
        generalize l.getD k 0 = y at hc hinv
        generalize l2.getD k 0 = y2 at hc2 hinv
        cases h1 : (y == y2)
        · rw [h1] at hinv
          have HI := Lib.hid hinv
          clear hinv
          go_wp2_with fail
          go_region
          all_goals
            go_wp2_with fail
            go_ret
            exact ⟨by rw [HI.out]; rfl, by first | exact hB.drew | exact hB⟩
        · rw [h1, Bool.true_and] at hinv
          have HI := Lib.hid hinv
          clear hinv
          go_wp2_with fail
          go_region
          all_goals
            go_wp2_with fail
            go_roundw
            case rel => exact ⟨k + 1, _, rfl, by omega, by go_num, HI.out, by first | exact hB.drew | exact hB⟩
            case measure => simp [intOf]; omega
      · obtain rfl : k = m := by omega
        have hi : (l == l2) = true := by rw [hinv]; conv => lhs; rw [HM.out, List.drop_length, ← HM.out, HM2.out, List.drop_length]
                                         rfl
        have HI := Lib.hid hi
        clear hinv hi
        go_wp2_with fail
        go_ret
        exact ⟨by rw [HI.out]; rfl, hB⟩
  · have hi : (l == l2) = false := by
      rw [beq_eq_false_iff_ne]
      intro e
      exact hmm (by rw [HM.out, HM2.out, e])
    have hne : ((m : Int) == (m2 : Int)) = false := by simp; omega
    have HI := Lib.hid hi
    have HN := Lib.hid hmm
    clear hi hmm
    go_enter Try.func27, Try.ntmps27
    go_wp2_with fail
    go_ret
    exact ⟨by rw [HI.out]; rfl, B0⟩
set_option maxRecDepth 100000 in
theorem same_pid (a : Int) (A : Option Addr) (m c : Nat) (l : List Int) (a2 : Int) (A2 : Option Addr) (m2 c2 : Nat) (l2 : List Int) (w : World) (hA : Ri7 w w.heap.size A l) (hm : m = l.length) (h6 : m ≤ 1000000) (hA2 : Ri7 w w.heap.size A2 l2) (hm2 : m2 = l2.length) :
    Calls Try.prog 17 #[pdV a A m c, pdV a2 A2 m2 c2] w fun e w' => e = .returned (.bool ((a == a2) && (l == l2))) ∧ Below w.heap.size w w' := by
  have k1 := (Blk.new w (pdC a A m c) 24).alloc (.cells (pdC a2 A2 m2 c2) 24)
  have k2 := Blk.new_ (w.alloc (.cells (pdC a A m c) 24)) (pdC a2 A2 m2 c2) 24 (n := w.heap.size + 1) (by simp)
  have B0 := ((Below.refl w.heap.size w).alloc (Nat.le_refl _) (.cells (pdC a A m c) 24)).alloc (by simp) (.cells (pdC a2 A2 m2 c2) 24)
  have q0 : _ = some (Value.int .i64 a) := k1.cell 0
  have q1 : _ = some (Value.slice A m c) := k1.cell 1
  have q2 : _ = some (Value.int .i64 a2) := k2.cell 0
  have q3 : _ = some (Value.slice A2 m2 c2) := k2.cell 1
  have hr := equalZ_any A m c l A2 m2 c2 l2 _ ((hA.below B0 (Nat.le_refl _)).more B0.size) hm h6 ((hA2.below B0 (Nat.le_refl _)).more B0.size) hm2
  generalize (l == l2) = rb at hr ⊢
  clear hm hm2
  unfold pdV pdC at *
  cases h1 : (a == a2)
  · go_enter Try.func17, Try.ntmps17
    go_wp2_with fail
    go_ret
    exact ⟨rfl, B0⟩
  · go_enter Try.func17, Try.ntmps17
    go_wp2_with (refine hr.mono ?_; rintro e w1 ⟨rfl, b1⟩)
    go_ret
    exact ⟨rfl, B0.trans (b1.mono B0.size)⟩
end Go.Proofs.Ytjbhliabmaipbaa
