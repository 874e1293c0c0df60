/-
  The reference: Same, Copy, Free, Take.
-/
import Derived.Test.YtjbhliabmaipbaaPiRf
namespace Go.Proofs.Ytjbhliabmaipbaa
open Go.RowKit Go.Shelf
set_option linter.unusedVariables false
set_option linter.unusedSimpArgs false

set_option maxRecDepth 100000 in
set_option maxHeartbeats 4000000 in
theorem rcopy_pid (a : Int) (A : Option Addr) (m c : Nat) (l : List Int) (w : World) (hA : Ri7 w w.heap.size A l) (hm : m = l.length) (h6 : m ≤ 1000000) :
    Calls Try.prog 15 #[pdV a A m c] w fun e w' => ∃ A' m' c', e = .returned (pdV a A' m' c') ∧ Zo w' w.heap.size A' m' c' l ∧ Below w.heap.size w w' := by
  have k1 := (Blk.new w (pdC a A m c) 24).alloc (.cells (pdC 0 none 0 0) 24)
  have k2 := Blk.new_ (w.alloc (.cells (pdC a A m c) 24)) (pdC 0 none 0 0) 24 (n := w.heap.size + 1) (by simp)
  have B0 := ((Below.refl w.heap.size w).alloc (Nat.le_refl _) (.cells (pdC a A m c) 24)).alloc (by simp) (.cells (pdC 0 none 0 0) 24)
  have HM := Lib.hid hm
  clear hm
  unfold pdV
  go_enter Try.func15, Try.ntmps15
  go_wp2_with fail
  have HS : FS w a A m c ((w.alloc (.cells (pdC a A m c) 24)).alloc (.cells (pdC 0 none 0 0) 24)).drew := ⟨B0.drew, k1.drew⟩
  have k21 := k2.drew
  show Code.wp _ _ _ _ ((w.alloc (.cells (pdC a A m c) 24)).alloc (.cells (pdC 0 none 0 0) 24))
  generalize (w.alloc (.cells (pdC a A m c) 24)).alloc (.cells (pdC 0 none 0 0) 24) = W9 at HS k21 ⊢
  clear k1 k2 B0
  refine region_cutP ?_
  refine wp_region_held_drew (S := FS w a A m c) (by kernel_rfl) HS (fun _ => ?_)
  refine wpAnyH_take (i := 0) (v := .pointer (some ⟨w.heap.size, 0, none⟩)) rfl (by kernel_rfl) (by kernel_rfl) (by kernel_rfl) (fun _ _ _ h => nomatch h.1) (.inl ⟨by rfl, fun V hV => by go_simp⟩) HS ?_
  try simp only [Act.put, List.getElem_toArray, List.getElem_cons_zero, List.getElem_cons_succ, List.setIfInBounds_toArray, List.set_cons_zero, List.set_cons_succ]
  refine wpAnyH_take (i := 1) (v := .int .i64 a) rfl (by kernel_rfl) (by kernel_rfl) (by kernel_rfl) (fun _ _ _ h => nomatch h.1) (.inl ⟨by rfl, fun V hV => by have c0 := hV.2.cell 0; simp only [pdC, List.getElem?_toArray, List.getElem?_cons_zero, List.getElem?_cons_succ] at c0; go_simp⟩) HS ?_
  try simp only [Act.put, List.getElem_toArray, List.getElem_cons_zero, List.getElem_cons_succ, List.setIfInBounds_toArray, List.set_cons_zero, List.set_cons_succ]
  refine wpAnyH_take (i := 3) (v := .pointer (some ⟨w.heap.size, 1, none⟩)) rfl (by kernel_rfl) (by kernel_rfl) (by kernel_rfl) (fun _ _ _ h => nomatch h.1) (.inl ⟨by rfl, fun V hV => by go_simp⟩) HS ?_
  try simp only [Act.put, List.getElem_toArray, List.getElem_cons_zero, List.getElem_cons_succ, List.setIfInBounds_toArray, List.set_cons_zero, List.set_cons_succ]
  refine wpAnyH_take (i := 4) (v := .slice A m c) rfl (by kernel_rfl) (by kernel_rfl) (by kernel_rfl) (fun _ _ _ h => nomatch h.1) (.inl ⟨by rfl, fun V hV => by have c0 := hV.2.cell 1; simp only [pdC, List.getElem?_toArray, List.getElem?_cons_zero, List.getElem?_cons_succ] at c0; go_simp⟩) HS ?_
  try simp only [Act.put, List.getElem_toArray, List.getElem_cons_zero, List.getElem_cons_succ, List.setIfInBounds_toArray, List.set_cons_zero, List.set_cons_succ]
  refine wpAnyH_ready (rs := [2]) (by kernel_rfl) (by simp) ?_
  refine AllReadyH.cons rfl (fun K hK => ?_) AllReadyH.nil
  try simp only [Act.put, List.getElem_toArray, List.getElem_cons_zero, List.getElem_cons_succ, List.setIfInBounds_toArray, List.set_cons_zero, List.set_cons_succ]
  go_simp
  refine hK.out _ _ (HS.step ((Below.refl _ _).alloc (Nat.le_refl _) _) ((Below.refl _ _).alloc (Nat.le_refl _) _)) (fun _ => ?_)
  clear hK K
  try simp only [Act.put, List.getElem_toArray, List.getElem_cons_zero, List.getElem_cons_succ, List.setIfInBounds_toArray, List.set_cons_zero, List.set_cons_succ]
  have hA1 : Ri7 (W9.drew.alloc (.cells #[] 3)) w.heap.size A l := hA.below (HS.1.alloc (by have := HS.1.size; omega) _) (Nat.le_refl _)
  have HS1 := HS.step ((Below.refl _ _).alloc (Nat.le_refl _) (.cells #[] 3)) ((Below.refl _ _).alloc (Nat.le_refl _) _)
  have k22 := k21.alloc (.cells #[] 3)
  have hsW : w.heap.size < W9.drew.heap.size := by have := k21.lt; omega
  have hsX : w.heap.size + 1 < W9.drew.heap.size := k21.lt
  refine wpAnyH_ready (rs := [5]) (by kernel_rfl) (by simp) ?_
  refine AllReadyH.cons rfl (fun K hK => ?_) AllReadyH.nil
  try simp only [Act.put, List.getElem_toArray, List.getElem_cons_zero, List.getElem_cons_succ, List.setIfInBounds_toArray, List.set_cons_zero, List.set_cons_succ]
  rw [if_pos (by rfl)]
  refine wp_appZ (.tmp 5) (.tmp 7) rfl W9.drew.heap.size _ 0 0 [] rfl (zo_empty W9.drew) (by simp) A w.heap.size m c l rfl hA1 HM.out (by omega) (by simp) ?_
  intro A2 c2 V2 z2 bb
  simp only [Nat.zero_add, List.nil_append] at z2
  have J2 := HS1.step2 bb hsW
  have k23 := k22.below bb hsX
  refine hK.out _ _ J2 (fun _ => ?_)
  clear hK K
  try simp only [Act.put, List.getElem_toArray, List.getElem_cons_zero, List.getElem_cons_succ, List.setIfInBounds_toArray, List.set_cons_zero, List.set_cons_succ]
  refine wpAnyH_take (i := 6) (v := .agg (pdC a A2 m c2)) rfl (by kernel_rfl) (by kernel_rfl) (by kernel_rfl) (fun _ _ _ h => nomatch h.1) (.inl ⟨by rfl, fun V hV => by unfold pdC; go_simp⟩) J2 ?_
  try simp only [Act.put, List.getElem_toArray, List.getElem_cons_zero, List.getElem_cons_succ, List.setIfInBounds_toArray, List.set_cons_zero, List.set_cons_succ]
  refine wpAnyH_ready (rs := [7]) (by kernel_rfl) (by simp) ?_
  refine AllReadyH.cons rfl (fun K hK => ?_) AllReadyH.nil
  try simp only [Act.put, List.getElem_toArray, List.getElem_cons_zero, List.getElem_cons_succ, List.setIfInBounds_toArray, List.set_cons_zero, List.set_cons_succ]
  rw [if_pos (by rfl)]
  refine wp_store_blk 24 (.tmp 2) (.tmp 9) rfl (w.heap.size + 1) (pdC 0 none 0 0) (pdC a A2 m c2) 24 rfl rfl k23 rfl (pd_inf _ _ _ _) (pd_one _ _ _ _) ?_
  intro V3 h3 n3
  have J3 : FS w a A m c V3 := ⟨J2.1.trans (n3.below w.heap.size (by omega) J2.1.size), n3.blk7 J2.2 (by omega)⟩
  have z3 : Zo V3 w.heap.size A2 m c2 l := own_but (z2.down (Nat.le_of_lt hsW)) n3 (fun e => by have := z2.lt _ e.symm; omega)
  refine hK.out _ _ J3 (fun _ => ?_)
  clear hK K
  try simp only [Act.put, List.getElem_toArray, List.getElem_cons_zero, List.getElem_cons_succ, List.setIfInBounds_toArray, List.set_cons_zero, List.set_cons_succ]
  refine wpAnyH_done (by kernel_rfl) ?_ _
  refine ⟨rfl, ?_⟩
  go_wp2_with fail
  refine bodyPost_ret (results_cell_row rfl _ _ (w.heap.size + 1) 24 (pdC a A2 m c2) (0, 0) _ rfl h3.blk Try.underlying24 rfl (pd_inf _ _ _ _)) rfl ?_
  exact ⟨A2, m, c2, rfl, z3, J3.1⟩
set_option maxRecDepth 100000 in
set_option maxHeartbeats 4000000 in
theorem rsame_pid (a : Int) (A : Option Addr) (m c : Nat) (l : List Int) (a2 : Int) (A2 : Option Addr) (m2 c2 : Nat) (l2 : List Int) (w : World) (hA : Ri7 w w.heap.size A l) (hm : m = l.length) (h6 : m ≤ 1000000) (hA2 : Ri7 w w.heap.size A2 l2) (hm2 : m2 = l2.length) :
    Calls Try.prog 14 #[pdV a A m c, pdV a2 A2 m2 c2] w fun e w' => e = .returned (.bool ((a == a2) && (l == l2))) ∧ Below w.heap.size w w' := by
  have k1 := (Blk.new w (pdC a A m c) 24).alloc (.cells (pdC a2 A2 m2 c2) 24)
  have k2 := Blk.new_ (w.alloc (.cells (pdC a A m c) 24)) (pdC a2 A2 m2 c2) 24 (n := w.heap.size + 1) (by simp)
  have B0 := ((Below.refl w.heap.size w).alloc (Nat.le_refl _) (.cells (pdC a A m c) 24)).alloc (by simp) (.cells (pdC a2 A2 m2 c2) 24)
  have q0 : _ = some (Value.int .i64 a) := k1.cell 0
  have q1 : _ = some (Value.slice A m c) := k1.cell 1
  have q2 : _ = some (Value.int .i64 a2) := k2.cell 0
  have q3 : _ = some (Value.slice A2 m2 c2) := k2.cell 1
  have HM := Lib.hid hm
  have HM2 := Lib.hid hm2
  clear hm hm2
  unfold pdV pdC at *
  cases h1 : (a == a2)
  · go_enter Try.func14, Try.ntmps14
    go_wp2_with fail
    go_ret
    exact ⟨rfl, B0⟩
  · rw [Bool.true_and]
    obtain rfl : a = a2 := by simpa using h1
    clear h1
    by_cases hmm : m = m2
    · subst hmm
      go_enter Try.func14, Try.ntmps14
      go_wp2_with fail
      clear q0 q1 q2 q3
      show Code.wp _ _ _ _ ((w.alloc (.cells #[.int .i64 a, .slice A m c] 24)).alloc (.cells #[.int .i64 a, .slice A2 m c2] 24))
      generalize (w.alloc (.cells #[.int .i64 a, .slice A m c] 24)).alloc (.cells #[.int .i64 a, .slice A2 m c2] 24) = w0 at B0 k1 k2 ⊢
      go_loopw [23] (fun i wr' => ∃ (k : Nat) (wr : World), wr = wr' ∧ k ≤ m ∧ i = .int .i64 k ∧ Hid ((l == l2) = (l.drop k == l2.drop k)) ∧ Below w.heap.size w wr ∧ Blk wr w.heap.size #[.int .i64 a, .slice A m c] 24 ∧ Blk wr (w.heap.size + 1) #[.int .i64 a, .slice A2 m c2] 24) (fun i _ => m - (intOf i).toNat)
      case atStart => exact ⟨0, _, rfl, Nat.zero_le _, rfl, Lib.hid (by simp), B0, k1, k2⟩
      case round =>
        clear B0 k1 k2
        obtain ⟨k, wr, hwr, hk, rfl, hinv, hB, k1, k2⟩ := hrel
        subst hwr
        by_cases hlt : k < m
        · have hlt' : (k : Int) < (m : Int) := by omega
          have hkl : k < l.length := by have := HM.out; omega
          have hkl2 : k < l2.length := by have := HM2.out; omega
          obtain ⟨b, off, rfl, hb, hc⟩ := hA.below hB (Nat.le_refl _) k hkl
          obtain ⟨b2, off2, rfl, hb2, hc2⟩ := hA2.below hB (Nat.le_refl _) k hkl2
          have q1 : wr.cell? ⟨w.heap.size, 1, none⟩ = some (.slice (some ⟨b, off, none⟩) m c) := k1.cell 1
          have q3 : wr.cell? ⟨w.heap.size + 1, 1, none⟩ = some (.slice (some ⟨b2, off2, none⟩) m c2) := k2.cell 1
          have hin := hinv.out
          rw [eq_drop hkl hkl2] at hin
          generalize l.getD k 0 = y at hc hin
          generalize l2.getD k 0 = y2 at hc2 hin
          clear hinv
          cases h3 : (y == y2)
          · rw [h3, Bool.false_and] at hin
            have HI := Lib.hid hin
            clear hin
            go_wp2_with fail
            go_region
            all_goals
              go_wp2_with fail
              go_ret
              exact ⟨by rw [HI.out]; rfl, by first | exact hB.drew | exact hB⟩
          · rw [h3, Bool.true_and] at hin
            have HI := Lib.hid hin
            clear hin
            go_wp2_with fail
            go_region
            all_goals
              go_wp2_with fail
              go_roundw
              case rel => exact ⟨k + 1, _, rfl, by omega, by go_num, HI, by first | exact hB.drew | exact hB, by first | exact k1.drew | exact k1, by first | exact k2.drew | exact k2⟩
              case measure => simp [intOf]; omega
        · obtain rfl : k = m := by omega
          have hi : (l == l2) = true := by
            rw [hinv.out]
            conv => lhs; rw [HM.out, List.drop_length, ← HM.out, HM2.out, List.drop_length]
            rfl
          have HI := Lib.hid hi
          clear hi
          go_wp2_with fail
          go_ret
          exact ⟨by rw [HI.out]; rfl, hB⟩
    · have hi : (l == l2) = false := by
        rw [beq_eq_false_iff_ne]
        intro e
        exact hmm (by rw [HM.out, HM2.out, e])
      have hne : ((m : Int) == (m2 : Int)) = false := by simp; omega
      have HI := Lib.hid hi
      clear hi hmm
      go_enter Try.func14, Try.ntmps14
      go_wp2_with fail
      go_ret
      exact ⟨by rw [HI.out]; rfl, B0⟩
/-- One number behind a row of the call's own. -/
theorem wpList_app1Z {w : World} {ops : Array Oper} {rest : List Oper} {o : Oper} {a : Act} {Q : Exit → Act → World → Prop} (hgd : o.guard = none) (s x : Operand)
    (ho : o.op = .call { callee := .builtin .append, args := #[s, x], argTypes := #[22, 22] })
    (base : Nat) (A : Option Addr) (m c : Nat) (l : List Int) (hs : a.eval s = .slice A m c) (hown : Zo w base A m c l) (g : Nat) (p : Int) (hx : a.eval x = .slice (some ⟨g, 0, none⟩) 1 1) (hr : w.cell? ⟨g, 0, none⟩ = some (.int .i64 p)) (hsz : m + 1 ≤ 1000000) (hbase : base ≤ w.heap.size)
    (h : ∀ A' c' w', Zo w' base A' (m + 1) c' (l ++ [p]) → Below base w w' → wpList Try.prog ops Q rest (a.put o.dst (.slice A' (m + 1) c')) w') :
    wpList Try.prog ops Q (o :: rest) a w := by
  refine wpList_plain hgd fun K hK => ?_
  obtain ⟨i, hi, hz, hs1, hb1⟩ := info_parts zint_info
  obtain ⟨v', w', hrun, h1, h2, _, _⟩ := run_append_own_at (P := Try.prog) w base 22 o.type 3 i (.int .i64 0) 1 8 Try.underlying22 hi hz hs1 hb1 rfl (by decide) _ m _ hown ⟨g, 0, none⟩ 1 1 [.int .i64 p]
    rfl (by
      intro j u hj
      have : j = 0 := by
        rcases j with _ | j
        · rfl
        · simp at hj
      subst this
      simp at hj
      subst hj
      simpa [Addr.add] using hr) (by intro u hu; simp at hu; subst hu; rfl) (by simp only [maxLen]; omega) (by omega) hbase
  obtain ⟨A'', c'', rfl⟩ := own_slice h1
  have hb : Below base w w' := (Below.refl _ _).grown h2 hbase fun k hk => (hown.lt k hk).1
  unfold Oper.wp execOp
  simp only [ho, resolve, invoke, builtin, Sem.run_bind, Sem.run_pure, Result.andThen_ok, List.map_toArray, List.map_cons, List.map_nil, hs, hx, hrun]
  exact hK _ _ (h A'' c'' w' (by unfold Zo; rw [List.map_append]; exact h1) hb)
end Go.Proofs.Ytjbhliabmaipbaa
