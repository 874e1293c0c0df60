/-
  The laws' ids in memory of their own (short), and whether the layer wakes.
-/
import Derived.Test.YtjbhliabmaipbaaPiU
namespace Go.Proofs.Ytjbhliabmaipbaa
open Go.RowKit Go.Shelf
set_option linter.unusedVariables false
set_option linter.unusedSimpArgs false

theorem wp_appZ {w : World} {o : Oper} {a : Act} {K : Act → World → Prop} {Q : Exit → Act → World → Prop} (s x : Operand)
    (ho : o.op = .call { callee := .builtin .append, args := #[s, x], argTypes := #[22, 22] })
    (base : Nat) (A : Option Addr) (m c : Nat) (l : List Int) (hs : a.eval s = .slice A m c) (hown : Zo w base A m c l) (hA : A ≠ none) (A2 : Option Addr) (B m2 c2 : Nat) (l2 : List Int) (hx : a.eval x = .slice A2 m2 c2) (h2 : Ri7 w B A2 l2) (hm2 : m2 = l2.length) (hsz : m + m2 ≤ 2000000) (hbase : base ≤ w.heap.size)
    (h : ∀ A' c' w', Zo w' base A' (m + m2) c' (l ++ l2) → Below base w w' → K (a.put o.dst (.slice A' (m + m2) c')) w') : o.wp Try.prog a w K Q := by
  obtain ⟨A', c', w', hrun, h3, h4⟩ := run_appZ o.type base A m c l hown hA A2 B m2 c2 l2 h2 hm2 hsz hbase
  unfold Oper.wp execOp
  simp only [ho, resolve, invoke, builtin, Sem.run_bind, Sem.run_pure, Result.andThen_ok, List.map_toArray, List.map_cons, List.map_nil, hs, hx, hrun]
  exact h A' c' w' h3 h4
theorem FS.step2 {w V V' : World} {a : Int} {A : Option Addr} {m c B : Nat} (h : FS w a A m c V) (hb : Below B V V') (hB : w.heap.size < B) : FS w a A m c V' := ⟨h.1.trans (hb.mono (by omega)), h.2.below hb hB⟩
theorem Ri7.take {w : World} {B : Nat} {A : Option Addr} {l : List Int} (h : Ri7 w B A l) (n : Nat) : Ri7 w B A (l.take n) := fun k hk => by
  rw [List.length_take] at hk
  obtain ⟨b, off, e, h1, h2⟩ := h k (by omega)
  refine ⟨b, off, e, h1, h2.trans ?_⟩
  have hkn : k < n := by omega
  simp [List.getD, hkn]
set_option maxRecDepth 100000 in
set_option maxHeartbeats 4000000 in
theorem short_pid (a : Int) (A : Option Addr) (m c : Nat) (l : List Int) (w : World) (hA : Ri7 w w.heap.size A l) (hm : m = l.length) (hmc : m ≤ c) :
    Calls Try.prog 8 #[pdV a A m c] w fun e w' => ∃ A' m' c', e = .returned (pdV a A' m' c') ∧ Zo w' w.heap.size A' m' c' (l.take 22) ∧ Below w.heap.size w w' := by
  have k1 := (Blk.new w (pdC a A m c) 24).alloc (.cells (pdC 0 none 0 0) 24)
  have k2 := Blk.new_ (w.alloc (.cells (pdC a A m c) 24)) (pdC 0 none 0 0) 24 (n := w.heap.size + 1) (by simp)
  have B0 := ((Below.refl w.heap.size w).alloc (Nat.le_refl _) (.cells (pdC a A m c) 24)).alloc (by simp) (.cells (pdC 0 none 0 0) 24)
  obtain ⟨k, hk⟩ : ∃ k, k = min m 22 := ⟨_, rfl⟩
  have hk1 : min (m : Int) 22 = (k : Int) := by omega
  have hkc : k ≤ c := by omega
  have HK : Hid (k = (l.take 22).length) := Lib.hid (by rw [List.length_take]; omega)
  have hk22 : k ≤ 22 := by omega
  clear hk hm
  unfold pdV
  go_enter Try.func8, Try.ntmps8
  go_wp2_with fail
  have HS : FS w a A m c ((w.alloc (.cells (pdC a A m c) 24)).alloc (.cells (pdC 0 none 0 0) 24)).drew := ⟨B0.drew, k1.drew⟩
  have k21 := k2.drew
  show Code.wp _ _ _ _ ((w.alloc (.cells (pdC a A m c) 24)).alloc (.cells (pdC 0 none 0 0) 24))
  generalize (w.alloc (.cells (pdC a A m c) 24)).alloc (.cells (pdC 0 none 0 0) 24) = W9 at HS k21 ⊢
  clear k1 k2 B0
  refine region_cutP ?_
  refine wp_region_held_drew (S := FS w a A m c) (by kernel_rfl) HS (fun _ => ?_)
  refine wpAnyH_take (i := 0) (v := .pointer (some ⟨w.heap.size, 0, none⟩)) rfl (by kernel_rfl) (by kernel_rfl) (by kernel_rfl) (fun _ _ _ h => nomatch h.1) (.inl ⟨by rfl, fun V hV => by go_simp⟩) HS ?_
  try simp only [Act.put, List.getElem_toArray, List.getElem_cons_zero, List.getElem_cons_succ, List.setIfInBounds_toArray, List.set_cons_zero, List.set_cons_succ]
  refine wpAnyH_take (i := 1) (v := .int .i64 a) rfl (by kernel_rfl) (by kernel_rfl) (by kernel_rfl) (fun _ _ _ h => nomatch h.1) (.inl ⟨by rfl, fun V hV => by have c0 := hV.2.cell 0; simp only [pdC, List.getElem?_toArray, List.getElem?_cons_zero, List.getElem?_cons_succ] at c0; go_simp⟩) HS ?_
  try simp only [Act.put, List.getElem_toArray, List.getElem_cons_zero, List.getElem_cons_succ, List.setIfInBounds_toArray, List.set_cons_zero, List.set_cons_succ]
  refine wpAnyH_take (i := 3) (v := .pointer (some ⟨w.heap.size, 1, none⟩)) rfl (by kernel_rfl) (by kernel_rfl) (by kernel_rfl) (fun _ _ _ h => nomatch h.1) (.inl ⟨by rfl, fun V hV => by go_simp⟩) HS ?_
  try simp only [Act.put, List.getElem_toArray, List.getElem_cons_zero, List.getElem_cons_succ, List.setIfInBounds_toArray, List.set_cons_zero, List.set_cons_succ]
  refine wpAnyH_take (i := 4) (v := .slice A m c) rfl (by kernel_rfl) (by kernel_rfl) (by kernel_rfl) (fun _ _ _ h => nomatch h.1) (.inl ⟨by rfl, fun V hV => by have c0 := hV.2.cell 1; simp only [pdC, List.getElem?_toArray, List.getElem?_cons_zero, List.getElem?_cons_succ] at c0; go_simp⟩) HS ?_
  try simp only [Act.put, List.getElem_toArray, List.getElem_cons_zero, List.getElem_cons_succ, List.setIfInBounds_toArray, List.set_cons_zero, List.set_cons_succ]
  refine wpAnyH_take (i := 5) (v := .pointer (some ⟨w.heap.size, 1, none⟩)) rfl (by kernel_rfl) (by kernel_rfl) (by kernel_rfl) (fun _ _ _ h => nomatch h.1) (.inl ⟨by rfl, fun V hV => by go_simp⟩) HS ?_
  try simp only [Act.put, List.getElem_toArray, List.getElem_cons_zero, List.getElem_cons_succ, List.setIfInBounds_toArray, List.set_cons_zero, List.set_cons_succ]
  refine wpAnyH_take (i := 6) (v := .slice A m c) rfl (by kernel_rfl) (by kernel_rfl) (by kernel_rfl) (fun _ _ _ h => nomatch h.1) (.inl ⟨by rfl, fun V hV => by have c0 := hV.2.cell 1; simp only [pdC, List.getElem?_toArray, List.getElem?_cons_zero, List.getElem?_cons_succ] at c0; go_simp⟩) HS ?_
  try simp only [Act.put, List.getElem_toArray, List.getElem_cons_zero, List.getElem_cons_succ, List.setIfInBounds_toArray, List.set_cons_zero, List.set_cons_succ]
  refine wpAnyH_take (i := 7) (v := .int .i64 m) rfl (by kernel_rfl) (by kernel_rfl) (by kernel_rfl) (fun _ _ _ h => nomatch h.1) (.inl ⟨by rfl, fun V hV => by go_simp⟩) HS ?_
  try simp only [Act.put, List.getElem_toArray, List.getElem_cons_zero, List.getElem_cons_succ, List.setIfInBounds_toArray, List.set_cons_zero, List.set_cons_succ]
  refine wpAnyH_take (i := 8) (v := .int .i64 k) rfl (by kernel_rfl) (by kernel_rfl) (by kernel_rfl) (fun _ _ _ h => nomatch h.1) (.inl ⟨by rfl, fun V hV => by go_simp⟩) HS ?_
  try simp only [Act.put, List.getElem_toArray, List.getElem_cons_zero, List.getElem_cons_succ, List.setIfInBounds_toArray, List.set_cons_zero, List.set_cons_succ]
  refine wpAnyH_take (i := 9) (v := .slice A k c) rfl (by kernel_rfl) (by kernel_rfl) (by kernel_rfl) (fun _ _ _ h => nomatch h.1) (.inl ⟨by rfl, fun V hV => by go_simp⟩) HS ?_
  try simp only [Act.put, List.getElem_toArray, List.getElem_cons_zero, List.getElem_cons_succ, List.setIfInBounds_toArray, List.set_cons_zero, List.set_cons_succ]
  refine wpAnyH_ready (rs := [2]) (by kernel_rfl) (by simp) ?_
  refine AllReadyH.cons rfl (fun K hK => ?_) AllReadyH.nil
  try simp only [Act.put, List.getElem_toArray, List.getElem_cons_zero, List.getElem_cons_succ, List.setIfInBounds_toArray, List.set_cons_zero, List.set_cons_succ]
  go_simp
  refine hK.out _ _ (HS.step ((Below.refl _ _).alloc (Nat.le_refl _) _) ((Below.refl _ _).alloc (Nat.le_refl _) _)) (fun _ => ?_)
  clear hK K
  try simp only [Act.put, List.getElem_toArray, List.getElem_cons_zero, List.getElem_cons_succ, List.setIfInBounds_toArray, List.set_cons_zero, List.set_cons_succ]
  have hA1 : Ri7 (W9.drew.alloc (.cells #[] 3)) w.heap.size A (l.take 22) := (hA.below (HS.1.alloc (by have := HS.1.size; omega) _) (Nat.le_refl _)).take 22
  have HS1 := HS.step ((Below.refl _ _).alloc (Nat.le_refl _) (.cells #[] 3)) ((Below.refl _ _).alloc (Nat.le_refl _) _)
  have k22 := k21.alloc (.cells #[] 3)
  have hsW : w.heap.size < W9.drew.heap.size := by have := k21.lt; omega
  have hsX : w.heap.size + 1 < W9.drew.heap.size := k21.lt
  refine wpAnyH_ready (rs := [10]) (by kernel_rfl) (by simp) ?_
  refine AllReadyH.cons rfl (fun K hK => ?_) AllReadyH.nil
  try simp only [Act.put, List.getElem_toArray, List.getElem_cons_zero, List.getElem_cons_succ, List.setIfInBounds_toArray, List.set_cons_zero, List.set_cons_succ]
  rw [if_pos (by rfl)]
  refine wp_appZ (.tmp 5) (.tmp 12) rfl W9.drew.heap.size _ 0 0 [] rfl (zo_empty W9.drew) (by simp) A w.heap.size k c (l.take 22) rfl hA1 HK.out (by omega) (by simp) ?_
  intro A2 c2 V2 z2 bb
  simp only [Nat.zero_add, List.nil_append] at z2
  have J2 := HS1.step2 bb hsW
  have k23 := k22.below bb hsX
  refine hK.out _ _ J2 (fun _ => ?_)
  clear hK K
  try simp only [Act.put, List.getElem_toArray, List.getElem_cons_zero, List.getElem_cons_succ, List.setIfInBounds_toArray, List.set_cons_zero, List.set_cons_succ]
  refine wpAnyH_take (i := 11) (v := .agg (pdC a A2 k c2)) rfl (by kernel_rfl) (by kernel_rfl) (by kernel_rfl) (fun _ _ _ h => nomatch h.1) (.inl ⟨by rfl, fun V hV => by unfold pdC; go_simp⟩) J2 ?_
  try simp only [Act.put, List.getElem_toArray, List.getElem_cons_zero, List.getElem_cons_succ, List.setIfInBounds_toArray, List.set_cons_zero, List.set_cons_succ]
  refine wpAnyH_ready (rs := [12]) (by kernel_rfl) (by simp) ?_
  refine AllReadyH.cons rfl (fun K hK => ?_) AllReadyH.nil
  try simp only [Act.put, List.getElem_toArray, List.getElem_cons_zero, List.getElem_cons_succ, List.setIfInBounds_toArray, List.set_cons_zero, List.set_cons_succ]
  rw [if_pos (by rfl)]
  refine wp_store_blk 24 (.tmp 2) (.tmp 14) rfl (w.heap.size + 1) (pdC 0 none 0 0) (pdC a A2 k c2) 24 rfl rfl k23 rfl (pd_inf _ _ _ _) (pd_one _ _ _ _) ?_
  intro V3 h3 n3
  have J3 : FS w a A m c V3 := ⟨J2.1.trans (n3.below w.heap.size (by omega) J2.1.size), n3.blk7 J2.2 (by omega)⟩
  have z3 : Zo V3 w.heap.size A2 k c2 (l.take 22) := own_but (z2.down (Nat.le_of_lt hsW)) n3 (fun e => by have := z2.lt _ e.symm; omega)
  refine hK.out _ _ J3 (fun _ => ?_)
  clear hK K
  try simp only [Act.put, List.getElem_toArray, List.getElem_cons_zero, List.getElem_cons_succ, List.setIfInBounds_toArray, List.set_cons_zero, List.set_cons_succ]
  refine wpAnyH_done (by kernel_rfl) ?_ _
  refine ⟨rfl, ?_⟩
  go_wp2_with fail
  refine bodyPost_ret (results_cell_row rfl _ _ (w.heap.size + 1) 24 (pdC a A2 k c2) (0, 0) _ rfl h3.blk Try.underlying24 rfl (pd_inf _ _ _ _)) rfl ?_
  exact ⟨A2, k, c2, rfl, z3, J3.1⟩
set_option maxRecDepth 100000 in
set_option maxHeartbeats 8000000 in
theorem wakes_pid (w : World) : Calls Try.prog 7 #[] w fun e w' => e = .returned (.bool true) ∧ Below w.heap.size w w' := by
  have t1 : takeV 0 [] = (1, [1], 1, 0) := by decide
  have t2 : takeV 1 [1] = (2, [1, 2], 2, 0) := by decide
  have t3 : freeV 2 [1, 2] 1 = (2, [2], 0) := by decide
  have t4 : takeV 2 [2] = (3, [2, 3], 3, 0) := by decide
  have T1 := Lib.hid t1
  have T2 := Lib.hid t2
  have T3 := Lib.hid t3
  have T4 := Lib.hid t4
  clear t1 t2 t3 t4
  have c1 := take_pid 0 none 0 0 [] w (fun k hk => absurd hk (by simp)) rfl (by omega)
  have B0 := Below.refl w.heap.size w
  unfold pdV pdC at c1
  go_enter Try.func7, Try.ntmps7
  go_wp2_with fail
  refine c1.mono ?_
  rintro e w1 ⟨A1, m1, r1, a1, l1, i1, e1, rfl, z1, ht, b1⟩
  rw [T1.out] at ht
  obtain ⟨rfl, rfl, rfl, rfl⟩ : a1 = 1 ∧ l1 = [1] ∧ i1 = 1 ∧ e1 = 0 := by injection ht with h1 h2; injection h2 with h2 h3; injection h3 with h3 h4; exact ⟨h1.symm, h2.symm, h3.symm, h4.symm⟩
  clear ht c1 T1
  go_wp2_with (first
    | (refine wpList_store_blk rfl 24 (.tmp 1) (.tmp 14) rfl w1.heap.size (pdC 0 none 0 0) (pdC 1 A1 m1 r1) 24 rfl rfl (Blk.new _ _ _) rfl (pd_inf _ _ _ _) (pd_one _ _ _ _) ?_; intro w2 h2 n2
       have b2 : Below w.heap.size w w2 := b1.trans ((((Below.refl _ w1).alloc (Nat.le_refl _) _).trans (n2.below _ (Nat.le_refl _) (by simp))).mono b1.size)
       have z2 := own_but ((z1.below ((Below.refl _ w1).alloc (Nat.le_refl _) (.cells (pdC 0 none 0 0) 24)) (Nat.le_refl _))) n2 (fun e => by have := z1.lt _ e.symm; omega))
    | (refine wpList_load_row rfl 24 (.tmp 1) rfl w1.heap.size rfl 24 (pdC 1 A1 m1 r1) (0, 0) _ h2.blk Try.underlying24 rfl (pd_inf _ _ _ _) ?_))
  have c2 := take_pid 1 A1 m1 r1 [1] w2 (z2.ri) z2.len (by have := z2.len; simp at this; omega)
  unfold pdV pdC at c2
  refine c2.mono ?_
  rintro e w3 ⟨A2, m2, r2, a2, l2, i2, e2, rfl, z3, ht, bb⟩
  rw [T2.out] at ht
  obtain ⟨rfl, rfl, rfl, rfl⟩ : a2 = 2 ∧ l2 = [1, 2] ∧ i2 = 2 ∧ e2 = 0 := by injection ht with h1 h2; injection h2 with h2 h3; injection h3 with h3 h4; exact ⟨h1.symm, h2.symm, h3.symm, h4.symm⟩
  have b3 := b2.trans (bb.mono b2.size)
  clear ht c2 T2 z2 z1 n2 bb h2
  go_wp2_with (first
    | (refine wpList_store_blk rfl 24 (.tmp 4) (.tmp 20) rfl w3.heap.size (pdC 0 none 0 0) (pdC 2 A2 m2 r2) 24 rfl rfl (Blk.new _ _ _) rfl (pd_inf _ _ _ _) (pd_one _ _ _ _) ?_; intro w4 h4 n4
       have b4 : Below w.heap.size w w4 := b3.trans ((((Below.refl _ w3).alloc (Nat.le_refl _) _).trans (n4.below _ (Nat.le_refl _) (by simp))).mono b3.size)
       have z4 := own_but ((z3.below ((Below.refl _ w3).alloc (Nat.le_refl _) (.cells (pdC 0 none 0 0) 24)) (Nat.le_refl _))) n4 (fun e => by have := z3.lt _ e.symm; omega))
    | (refine wpList_load_row rfl 24 (.tmp 4) rfl w3.heap.size rfl 24 (pdC 2 A2 m2 r2) (0, 0) _ h4.blk Try.underlying24 rfl (pd_inf _ _ _ _) ?_))
  have c3 := free_pid 2 A2 m2 r2 [1, 2] 1 w4 (z4.ri) z4.len (by have := z4.len; simp at this; omega)
  unfold pdV pdC at c3
  refine c3.mono ?_
  rintro e w5 ⟨A3, m3, r3, a3, l3, e3, rfl, z5, ht, bb⟩
  rw [T3.out] at ht
  obtain ⟨rfl, rfl, rfl⟩ : a3 = 2 ∧ l3 = [2] ∧ e3 = 0 := by injection ht with h1 h2; injection h2 with h2 h3; exact ⟨h1.symm, h2.symm, h3.symm⟩
  have b5 := b4.trans (bb.mono b4.size)
  have h5 := h4.below bb h4.lt
  have hs5 : w3.heap.size < w4.heap.size := h4.lt
  clear ht c3 T3 z4 z3 n4 bb h4
  go_wp2_with (first
    | (refine wpList_store_blk rfl 24 (.tmp 4) (.tmp 26) rfl w3.heap.size (pdC 2 A2 m2 r2) (pdC 2 A3 m3 r3) 24 rfl rfl (h5) rfl (pd_inf _ _ _ _) (pd_one _ _ _ _) ?_; intro w6 h6 n6
       have b6 : Below w.heap.size w w6 := b5.trans (n6.below _ b3.size b5.size)
       have z6 := own_but z5 n6 (fun e => by have := z5.lt _ e.symm; omega))
    | (refine wpList_load_row rfl 24 (.tmp 4) rfl w3.heap.size rfl 24 (pdC 2 A3 m3 r3) (0, 0) _ h6.blk Try.underlying24 rfl (pd_inf _ _ _ _) ?_))
  have c4 := take_pid 2 A3 m3 r3 [2] w6 (z6.ri) z6.len (by have := z6.len; simp at this; omega)
  unfold pdV pdC at c4
  refine c4.mono ?_
  rintro e w7 ⟨A4, m4, r4, a4, l4, i4, e4, rfl, z7, ht, bb⟩
  rw [T4.out] at ht
  obtain ⟨rfl, rfl, rfl, rfl⟩ : a4 = 3 ∧ l4 = [2, 3] ∧ i4 = 3 ∧ e4 = 0 := by injection ht with h1 h2; injection h2 with h2 h3; injection h3 with h3 h4; exact ⟨h1.symm, h2.symm, h3.symm, h4.symm⟩
  have b7 := b6.trans (bb.mono b6.size)
  have h7 := h6.below bb h6.lt
  have hs7 : w3.heap.size < w7.heap.size := h7.lt
  have z8 := z6.below bb (Nat.le_refl _)
  clear ht c4 T4 z6 z5 n6 bb h6 h5
  go_wp2_with (first
    | (refine wpList_store_blk rfl 24 (.tmp 8) (.tmp 31) rfl w7.heap.size (pdC 0 none 0 0) (pdC 3 A4 m4 r4) 24 rfl rfl (Blk.new _ _ _) rfl (pd_inf _ _ _ _) (pd_one _ _ _ _) ?_; intro w8 h8 n8
       have b8 : Below w.heap.size w w8 := b7.trans ((((Below.refl _ w7).alloc (Nat.le_refl _) _).trans (n8.below _ (Nat.le_refl _) (by simp))).mono b7.size)
       have h9 : Blk w8 w3.heap.size (pdC 2 A3 m3 r3) 24 := n8.blk7 (h7.alloc _) (by omega)
       have z9 := own_but ((z8.below ((Below.refl _ w7).alloc (Nat.le_refl _) (.cells (pdC 0 none 0 0) 24)) (Nat.le_refl _))) n8 (fun e => by have := z8.lt _ e.symm; omega))
    | (refine wpListG_load (by rfl) 24 (.tmp 4) rfl w3.heap.size rfl 24 (pdC 2 A3 m3 r3) _ h9 Try.underlying24 rfl (pd_inf _ _ _ _) ?_))
  have c5 := has_pid 2 A3 m3 r3 [2] 1 w8 (z9.ri) z9.len z9.cap (by have := z9.len; simp at this; omega)
  unfold pdV pdC at c5
  refine c5.mono ?_
  rintro e w10 ⟨rfl, bb⟩
  go_wp2_with fail
  go_ret
  exact ⟨rfl, b8.trans (bb.mono b8.size)⟩
end Go.Proofs.Ytjbhliabmaipbaa
