/-
  cred.user, Check, First, changed and its closures; the calls that change credentials.
-/
import Derived.Test.YteoeflainejaaaaCrM
namespace Go.Proofs.Yteoeflainejaaaa
open Go.RowKit Go.Shelf
set_option linter.unusedVariables false
set_option linter.unusedSimpArgs false

theorem user_cr (u : Int) (w : World) : Calls Try.prog 25 #[.int .i64 u] w fun e w' => e = .returned (.bool (userC u)) ∧ Below w.heap.size w w' := by
  have B0 := Below.refl w.heap.size w
  unfold userC
  cases h1 : decide (0 ≤ u)
  · go_enter Try.func25, Try.ntmps25
    go_wp2_with fail
    go_ret
    exact ⟨rfl, B0⟩
  · cases h2 : decide (u ≤ 9)
    · go_enter Try.func25, Try.ntmps25
      go_wp2_with fail
      go_ret
      exact ⟨rfl, B0⟩
    · go_enter Try.func25, Try.ntmps25
      go_wp2_with fail
      go_ret
      exact ⟨rfl, B0⟩
theorem check_cr (c : Cr) (w : World) : Calls Try.prog 9 #[crV c] w fun e w' => e = .returned (.int .i64 (chkC c)) ∧ Below w.heap.size w w' := by
  obtain ⟨u, a, n, m⟩ := c
  have k1 := Blk.new w (crC (u, a, n, m)) 23
  have B0 := (Below.refl w.heap.size w).alloc (Nat.le_refl _) (.cells (crC (u, a, n, m)) 23)
  have hu := user_cr u (w.alloc (.cells (crC (u, a, n, m)) 23))
  have q0 : _ = some (Value.int .i64 u) := k1.cell 0
  obtain ⟨E, hE⟩ : ∃ E, chkC (u, a, n, m) = E := ⟨_, rfl⟩
  have he : E = if userC u = true then (if decide (m < 0) = true then 210 else if decide (2 < m) = true then 210 else 0) else 210 := by
    rw [← hE]
    unfold chkC rightC
    simp only
    cases userC u
    · rfl
    · by_cases h1 : m < 0
      · rw [decide_eq_true h1, decide_eq_false (by omega : ¬ 0 ≤ m)]; rfl
      · by_cases h2 : 2 < m
        · rw [decide_eq_true h2, decide_eq_false h1, decide_eq_false (by omega : ¬ m ≤ 2)]; simp
        · rw [decide_eq_false h2, decide_eq_false h1, decide_eq_true (by omega : m ≤ 2), decide_eq_true (by omega : 0 ≤ m)]; rfl
  rw [hE]
  clear hE
  generalize userC u = ub at hu he
  unfold crV crC at *
  simp only at *
  cases ub
  · have HE := Lib.hid he
    clear he
    go_enter Try.func9, Try.ntmps9
    go_wp2_with (refine hu.mono ?_; rintro e w1 ⟨rfl, b1⟩)
    go_ret
    exact ⟨by rw [HE.out]; rfl, B0.trans (b1.mono B0.size)⟩
  · cases h1 : decide (m < 0)
    · cases h2 : decide (2 < m)
      · rw [h1, h2] at he
        have HE := Lib.hid he
        clear he
        go_enter Try.func9, Try.ntmps9
        go_wp2_with (refine hu.mono ?_; rintro e w1 ⟨rfl, b1⟩; have q3 : w1.cell? ⟨w.heap.size, 3, none⟩ = some (Value.int .i64 m) := (k1.below b1 k1.lt).cell 3)
        go_ret
        exact ⟨by rw [HE.out]; rfl, B0.trans (b1.mono B0.size)⟩
      · rw [h1, h2] at he
        have HE := Lib.hid he
        clear he
        go_enter Try.func9, Try.ntmps9
        go_wp2_with (refine hu.mono ?_; rintro e w1 ⟨rfl, b1⟩; have q3 : w1.cell? ⟨w.heap.size, 3, none⟩ = some (Value.int .i64 m) := (k1.below b1 k1.lt).cell 3)
        go_ret
        exact ⟨by rw [HE.out]; rfl, B0.trans (b1.mono B0.size)⟩
    · rw [h1] at he
      have HE := Lib.hid he
      clear he
      go_enter Try.func9, Try.ntmps9
      go_wp2_with (refine hu.mono ?_; rintro e w1 ⟨rfl, b1⟩; have q3 : w1.cell? ⟨w.heap.size, 3, none⟩ = some (Value.int .i64 m) := (k1.below b1 k1.lt).cell 3)
      go_ret
      exact ⟨by rw [HE.out]; rfl, B0.trans (b1.mono B0.size)⟩
theorem chkC_or (c : Cr) : (rightC c = true ∧ chkC c = 0) ∨ (rightC c = false ∧ chkC c = 210) := by
  unfold chkC
  cases h : rightC c
  · exact .inr ⟨rfl, rfl⟩
  · exact .inl ⟨rfl, rfl⟩
theorem first_cr (w : World) : Calls Try.prog 13 #[] w fun e w' => e = .returned (crV (0, true, false, 0)) ∧ Below w.heap.size w w' := by
  have k1 := Blk.new w (crC cr0) 23
  go_enter Try.func13, Try.ntmps13
  go_wp2_with (refine wpList_store_blk rfl 23 (.tmp 0) (.tmp 1) rfl w.heap.size (crC cr0) (crC (0, true, false, 0)) 23 rfl rfl k1 rfl (cr_inf _) (cr_one _) ?_
               intro w2 h2 n2)
  refine bodyPost_ret (results_cell_row rfl _ _ w.heap.size 23 (crC (0, true, false, 0)) (0, 0) _ rfl h2.blk Try.underlying23 rfl (cr_inf _)) rfl ?_
  exact ⟨rfl, ((Below.refl w.heap.size w).alloc (Nat.le_refl _) _).trans (n2.below _ (Nat.le_refl _) (by simp))⟩
/-- A change of credentials that lie at a place: what it says of them, and leaves. -/
abbrev ChgAt (cf : Nat) (cb : Array Value) (S : World → Prop) (g : Nat) (c : Cr) (r : Cr × Int) : Prop :=
  ∀ V, S V → Blk V g (crC c) 23 → Calls Try.prog cf (#[.pointer (some ⟨g, 0, none⟩)] ++ cb) V fun e V' => e = .returned (.int .i64 r.2) ∧ Blk V' g (crC r.1) 23 ∧ But g V V'
set_option maxRecDepth 100000 in
theorem changed_cr (cf : Nat) (cb : Array Value) (c : Cr) (r : Cr × Int) (w : World)
    (ec : ∀ args w, (callFunc cf args).run Try.prog w = .ok (.enter cf args) w)
    (hc : ChgAt cf cb (fun V => Below w.heap.size w V) w.heap.size c r) :
    Calls Try.prog 27 #[crV c, .func (.func cf) #[] cb] w fun e w' => e = .returned (.tuple #[crV (chgC c r).1, .int .i64 (chgC c r).2]) ∧ Below w.heap.size w w' := by
  have k1 := (Blk.new w (crC c) 23).alloc (.cells (crC cr0) 23)
  have k2 := Blk.new_ (w.alloc (.cells (crC c) 23)) (crC cr0) 23 (n := w.heap.size + 1) (by simp)
  have B0 := ((Below.refl w.heap.size w).alloc (Nat.le_refl _) (.cells (crC c) 23)).alloc (by simp) (.cells (crC cr0) 23)
  have CK := check_cr c ((w.alloc (.cells (crC c) 23)).alloc (.cells (crC cr0) 23))
  have HC := Lib.hid hc
  clear hc
  have hcg : chgC c r = if chkC c = 0 then (if r.2 = 0 then r else (cr0, r.2)) else (cr0, chkC c) := by
    unfold chgC chkC
    cases h : rightC c <;> simp
  obtain ⟨G, hG⟩ : ∃ G, chgC c r = G := ⟨_, rfl⟩
  obtain ⟨ck, hck⟩ : ∃ ck, chkC c = ck := ⟨_, rfl⟩
  rw [hG, hck] at hcg
  rw [hG]
  rw [hck] at CK
  have HG := Lib.hid hcg
  clear hG hck hcg
  unfold crV at CK ⊢
  go_enter Try.func27, Try.ntmps27
  go_wp2_with (refine wpList_load_row rfl 23 (.tmp 2) rfl w.heap.size rfl 23 (crC c) (0, 0) _ k1.blk Try.underlying23 rfl (cr_inf c) ?_)
  refine CK.mono ?_
  rintro e w1 ⟨rfl, bb⟩
  have k11 := k1.below bb k1.lt
  have k21 := k2.below bb k2.lt
  have b1 := B0.trans (bb.mono B0.size)
  clear CK k1 k2 B0 bb
  by_cases h0 : ck = 0
  · subst h0
    have CC := HC.out w1 b1 k11
    go_wp2_with fail
    refine CC.mono ?_
    rintro e w2 ⟨rfl, k12, n2⟩
    have k22 := n2.blk7 k21 (by omega)
    have b2 := b1.trans (n2.below w.heap.size (by omega) b1.size)
    clear CC k11 k21 b1 n2
    obtain ⟨r1, r2⟩ := r
    simp only at k12 HG ⊢
    by_cases h1 : r2 = 0
    · subst h1
      have hg : G = (r1, 0) := HG.out
      subst hg
      go_wp2_with (first
        | (refine wpList_load_row rfl 23 (.tmp 2) rfl w.heap.size rfl 23 (crC r1) (0, 0) _ k12.blk Try.underlying23 rfl (cr_inf r1) ?_)
        | (refine wpList_store_blk rfl 23 (.tmp 4) (.tmp 20) rfl (w.heap.size + 1) (crC cr0) (crC r1) 23 rfl rfl k22 rfl (cr_inf _) (cr_one _) ?_
           intro w3 h3 n3))
      refine bodyPost_ret (results_row_tmp rfl _ _ (w.heap.size + 1) 23 (crC r1) (0, 0) _ rfl h3.blk Try.underlying23 rfl (cr_inf _) _ rfl) rfl ?_
      exact ⟨rfl, b2.trans (n3.below _ (by omega) b2.size)⟩
    · have hne : (r2 != 0) = true := by simpa using h1
      have hg : G = (cr0, r2) := by have := HG.out; simpa [h1] using this
      subst hg
      clear h1 HG
      go_wp2_with (first
        | (refine wpList_store_blk rfl 23 (.tmp 4) (.tmp 18) rfl (w.heap.size + 1) (crC cr0) (crC cr0) 23 rfl rfl k22 rfl (cr_inf _) (cr_one _) ?_
           intro w3 h3 n3))
      refine bodyPost_ret (results_row_tmp rfl _ _ (w.heap.size + 1) 23 (crC cr0) (0, 0) _ rfl h3.blk Try.underlying23 rfl (cr_inf _) _ rfl) rfl ?_
      exact ⟨rfl, b2.trans (n3.below _ (by omega) b2.size)⟩
  · have hne : (ck != 0) = true := by simpa using h0
    have hg : G = (cr0, ck) := by rw [HG.out, if_neg h0]
    subst hg
    clear h0 HG HC
    go_wp2_with (first
      | (refine wpList_store_blk rfl 23 (.tmp 4) (.tmp 12) rfl (w.heap.size + 1) (crC cr0) (crC cr0) 23 rfl rfl k21 rfl (cr_inf _) (cr_one _) ?_
         intro w3 h3 n3))
    refine bodyPost_ret (results_row_tmp rfl _ _ (w.heap.size + 1) 23 (crC cr0) (0, 0) _ rfl h3.blk Try.underlying23 rfl (cr_inf _) _ rfl) rfl ?_
    exact ⟨rfl, b1.trans (n3.below _ (by omega) b1.size)⟩
theorem nn1_cr (c : Cr) (g : Nat) (S : World → Prop) : ChgAt 29 #[] S g c (nnC c) := by
  intro V _ k
  obtain ⟨u, a, n, m⟩ := c
  unfold nnC
  simp only
  have f2 := k.frozen 2
  have q2 : V.cell? ⟨g, 2, none⟩ = some (.bool n) := k.cell 2
  have k' := k.set_ 2 (.bool true)
  have n' := (But.refl g V).setCell (p := ⟨g, 2, none⟩) (.inl rfl) (.bool true)
  clear k
  go_enter Try.func29, Try.ntmps29
  go_wp2_with fail
  go_ret
  exact ⟨rfl, k', n'⟩
theorem st1_cr (c : Cr) (g : Nat) (S : World → Prop) : ChgAt 31 #[] S g c (stC c) := by
  intro V _ k
  obtain ⟨u, a, n, m⟩ := c
  unfold stC
  simp only
  have f2 := k.frozen 3
  have q2 : V.cell? ⟨g, 3, none⟩ = some (.int .i64 m) := k.cell 3
  have n0 := But.refl g V
  have k' := k.set_ 3 (.int .i64 1)
  have n' := (But.refl g V).setCell (p := ⟨g, 3, none⟩) (.inl rfl) (.int .i64 1)
  cases h1 : (m == 2)
  · clear k n0
    go_enter Try.func31, Try.ntmps31
    go_wp2_with fail
    go_ret
    exact ⟨rfl, k', n'⟩
  · clear k' n'
    go_enter Try.func31, Try.ntmps31
    go_wp2_with fail
    go_ret
    exact ⟨rfl, k, n0⟩
theorem fi1_cr (c : Cr) (g : Nat) (S : World → Prop) : ChgAt 32 #[] S g c (fiC c) := by
  intro V _ k
  obtain ⟨u, a, n, m⟩ := c
  unfold fiC
  simp only
  have f3 := k.frozen 3
  have q1 : V.cell? ⟨g, 1, none⟩ = some (.bool a) := k.cell 1
  have q2 : V.cell? ⟨g, 2, none⟩ = some (.bool n) := k.cell 2
  have q3 : V.cell? ⟨g, 3, none⟩ = some (.int .i64 m) := k.cell 3
  have n0 := But.refl g V
  have k' := k.set_ 3 (.int .i64 2)
  have n' := (But.refl g V).setCell (p := ⟨g, 3, none⟩) (.inl rfl) (.int .i64 2)
  cases h1 : (m == 1)
  · cases a
    · cases n
      · clear k' n'
        go_enter Try.func32, Try.ntmps32
        go_wp2_with fail
        go_ret
        exact ⟨rfl, k, n0⟩
      · clear k n0
        go_enter Try.func32, Try.ntmps32
        go_wp2_with fail
        go_ret
        exact ⟨rfl, k', n'⟩
    · clear k n0
      go_enter Try.func32, Try.ntmps32
      go_wp2_with fail
      go_ret
      exact ⟨rfl, k', n'⟩
  · clear k' n'
    go_enter Try.func32, Try.ntmps32
    go_wp2_with fail
    go_ret
    exact ⟨rfl, k, n0⟩
end Go.Proofs.Yteoeflainejaaaa
