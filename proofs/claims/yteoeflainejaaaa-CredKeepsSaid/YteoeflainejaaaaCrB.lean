/-
  Credentials compared; cred.toward, Below.
-/
import Derived.Test.YteoeflainejaaaaCrE
import Derived.Test.YteoeflainejaaaaClass
import Derived.Test.YteoeflainejaaaaClassL
import Derived.ChangeKeysEq
import Derived.Laws.StructEq
namespace Go.Proofs.Yteoeflainejaaaa
open Go.RowKit Go.Shelf
set_option linter.unusedVariables false
set_option linter.unusedSimpArgs false

theorem eqF_consC {P : Program} {d : Nat} {xs ys : Array Value} {f : Field} {fs : List Field} {w : World} {a b : Value} {r r' : Bool} (hn : f.name ≠ "_") (ha : (part f.type xs f.offset).run P w = .ok a w) (hb : (part f.type ys f.offset).run P w = .ok b w)
    (hr : (Op.equalIn d f.type a b).run P w = .ok r w) (hf : (Op.eqFields d xs ys fs).run P w = .ok r' w) : (Op.eqFields d xs ys (f :: fs)).run P w = .ok (r && r') w := by
  simp only [Op.eqFields, hn, ne_eq, not_false_eq_true, if_true, Sem.run_bind, ha, hb, hr, Result.andThen_ok]
  cases r <;> simp [hf]
theorem cr_fields : (Try.prog.fieldsOf 23).toList = [⟨"Uid", 3, 0, false, "", "", 0⟩, ⟨"Admin", 4, 1, false, "", "", 8⟩, ⟨"NoNew", 4, 2, false, "", "", 9⟩, ⟨"Mode", 3, 3, false, "", "", 16⟩] := by kernel_rfl
theorem run_eqIn_cr (d : Nat) (a b : Cr) (w : World) : (Op.equalIn (d + 2) 23 (.agg (crC a)) (.agg (crC b))).run Try.prog w = .ok (sameC a b) w := by
  rw [run_equalIn_struct w (d + 1) 23 _ _ (by kernel_rfl) (by kernel_rfl), cr_fields]
  have h0 := run_equalIn_int w d 3 .i64 .i64 a.1 b.1 Try.underlying3
  have h1 := run_equalIn_bool' w d 4 a.2.1 b.2.1 Try.underlying4
  have h2 := run_equalIn_bool' w d 4 a.2.2.1 b.2.2.1 Try.underlying4
  have h3 := run_equalIn_int w d 3 .i64 .i64 a.2.2.2 b.2.2.2 Try.underlying3
  have hz : (Op.eqFields (d + 1) (crC a) (crC b) []).run Try.prog w = .ok true w := by simp [Op.eqFields]
  have e := eqF_consC (f := ⟨"Uid", 3, 0, false, "", "", 0⟩) (by decide) (run_part_plain w (v := .int .i64 a.1) (by kernel_rfl) rfl) (run_part_plain w (v := .int .i64 b.1) (by kernel_rfl) rfl) h0
    (eqF_consC (f := ⟨"Admin", 4, 1, false, "", "", 8⟩) (by decide) (run_part_plain w (v := .bool a.2.1) (by kernel_rfl) rfl) (run_part_plain w (v := .bool b.2.1) (by kernel_rfl) rfl) h1
    (eqF_consC (f := ⟨"NoNew", 4, 2, false, "", "", 9⟩) (by decide) (run_part_plain w (v := .bool a.2.2.1) (by kernel_rfl) rfl) (run_part_plain w (v := .bool b.2.2.1) (by kernel_rfl) rfl) h2
    (eqF_consC (f := ⟨"Mode", 3, 3, false, "", "", 16⟩) (by decide) (run_part_plain w (v := .int .i64 a.2.2.2) (by kernel_rfl) rfl) (run_part_plain w (v := .int .i64 b.2.2.2) (by kernel_rfl) rfl) h3 hz)))
  have eb : (a.1 == b.1 && (a.2.1 == b.2.1 && (a.2.2.1 == b.2.2.1 && (a.2.2.2 == b.2.2.2 && true)))) = sameC a b := by
    unfold sameC
    simp only [Bool.and_true, Bool.and_assoc]
  rw [e, eb]
theorem run_eql_cr (a b : Cr) (w : World) : (binOp .eql 23 (.agg (crC a)) (.agg (crC b))).run Try.prog w = .ok (.bool (sameC a b)) w := by
  rw [run_eql_struct, run_eqIn_cr 9998]
  rfl
theorem sameC_iff {a b : Cr} : sameC a b = true ↔ a = b := by
  obtain ⟨u, x, n, m⟩ := a
  obtain ⟨v, y, k, l⟩ := b
  simp [sameC, and_assoc]
set_option maxRecDepth 100000 in
set_option maxHeartbeats 2000000 in
theorem toward_cr (a b : Cr) (w : World) : Calls Try.prog 26 #[crV a, crV b] w fun e w' => e = .returned (crV (toC a b)) ∧ Below w.heap.size w w' := by
  obtain ⟨u, x, n, m⟩ := a
  obtain ⟨v, y, k, l⟩ := b
  have ka := ((Blk.new w (crC (u, x, n, m)) 23).alloc (.cells (crC (v, y, k, l)) 23)).alloc (.cells (crC cr0) 23)
  have KB : ∀ B, Blk (((w.alloc (.cells (crC (u, x, n, m)) 23)).alloc (.cells B 23)).alloc (.cells (crC cr0) 23)) (w.heap.size + 1) B 23 := fun B => (Blk.new_ (w.alloc (.cells (crC (u, x, n, m)) 23)) B 23 (n := w.heap.size + 1) (by simp)).alloc (.cells (crC cr0) 23)
  have KR : ∀ B, Blk (((w.alloc (.cells (crC (u, x, n, m)) 23)).alloc (.cells B 23)).alloc (.cells (crC cr0) 23)) (w.heap.size + 1 + 1) (crC cr0) 23 := fun B => Blk.new_ ((w.alloc (.cells (crC (u, x, n, m)) 23)).alloc (.cells B 23)) (crC cr0) 23 (n := w.heap.size + 1 + 1) (by simp)
  have BB : ∀ B, Below w.heap.size w (((w.alloc (.cells (crC (u, x, n, m)) 23)).alloc (.cells B 23)).alloc (.cells (crC cr0) 23)) := fun B => (((Below.refl w.heap.size w).alloc (Nat.le_refl _) (.cells (crC (u, x, n, m)) 23)).alloc (by simp) (.cells B 23)).alloc (by simp; omega) (.cells (crC cr0) 23)
  unfold toC
  simp only
  unfold crV crC cr0 at *
  simp only at *
  cases k
  · cases hz : (l == 0)
    · skip
      go_enter Try.func26, Try.ntmps26
      go_wp2_with fail
      go_region
      all_goals
        go_wp2_with (first
          | (refine wpList_load_row rfl 23 (.tmp 3) rfl (w.heap.size + 1) rfl 23 (crC (u, x, n, l)) (0, 0) _ (KB (crC (u, x, n, l))).drew.blk Try.underlying23 rfl (cr_inf _) ?_)
          | (refine wpList_store_blk rfl 23 (.tmp 4) (.tmp 31) rfl (w.heap.size + 1 + 1) (crC cr0) (crC (u, x, n, l)) 23 rfl rfl (KR (crC (u, x, n, l))).drew rfl (cr_inf _) (cr_one _) ?_
             intro w3 h3 n3))
        refine bodyPost_ret (results_cell_row rfl _ _ (w.heap.size + 1 + 1) 23 (crC (u, x, n, l)) (0, 0) _ rfl h3.blk Try.underlying23 rfl (cr_inf _)) rfl ?_
        exact ⟨rfl, (BB (crC (u, x, n, l))).drew.trans (n3.below _ (by omega) (BB (crC (u, x, n, l))).drew.size)⟩
    · skip
      go_enter Try.func26, Try.ntmps26
      go_wp2_with fail
      go_region
      all_goals
        go_wp2_with (first
          | (refine wpList_load_row rfl 23 (.tmp 3) rfl (w.heap.size + 1) rfl 23 (crC (u, x, n, m)) (0, 0) _ (KB (crC (u, x, n, m))).drew.blk Try.underlying23 rfl (cr_inf _) ?_)
          | (refine wpList_store_blk rfl 23 (.tmp 4) (.tmp 31) rfl (w.heap.size + 1 + 1) (crC cr0) (crC (u, x, n, m)) 23 rfl rfl (KR (crC (u, x, n, m))).drew rfl (cr_inf _) (cr_one _) ?_
             intro w3 h3 n3))
        refine bodyPost_ret (results_cell_row rfl _ _ (w.heap.size + 1 + 1) 23 (crC (u, x, n, m)) (0, 0) _ rfl h3.blk Try.underlying23 rfl (cr_inf _)) rfl ?_
        exact ⟨rfl, (BB (crC (u, x, n, m))).drew.trans (n3.below _ (by omega) (BB (crC (u, x, n, m))).drew.size)⟩
  · cases y
    · cases hz : (l == 0)
      · skip
        go_enter Try.func26, Try.ntmps26
        go_wp2_with (first
          | (refine wpList_load_row rfl 23 (.tmp 3) rfl (w.heap.size + 1) rfl 23 (crC (v, false, true, l)) (0, 0) _ (KB (crC (v, false, true, l))).blk Try.underlying23 rfl (cr_inf _) ?_)
          | (refine wpList_store_blk rfl 23 (.tmp 4) (.tmp 31) rfl (w.heap.size + 1 + 1) (crC cr0) (crC (v, false, true, l)) 23 rfl rfl (KR (crC (v, false, true, l))) rfl (cr_inf _) (cr_one _) ?_
             intro w3 h3 n3))
        refine bodyPost_ret (results_cell_row rfl _ _ (w.heap.size + 1 + 1) 23 (crC (v, false, true, l)) (0, 0) _ rfl h3.blk Try.underlying23 rfl (cr_inf _)) rfl ?_
        exact ⟨rfl, (BB (crC (v, false, true, l))).trans (n3.below _ (by omega) (BB (crC (v, false, true, l))).size)⟩
      · skip
        go_enter Try.func26, Try.ntmps26
        go_wp2_with (first
          | (refine wpList_load_row rfl 23 (.tmp 3) rfl (w.heap.size + 1) rfl 23 (crC (v, false, true, m)) (0, 0) _ (KB (crC (v, false, true, m))).blk Try.underlying23 rfl (cr_inf _) ?_)
          | (refine wpList_store_blk rfl 23 (.tmp 4) (.tmp 31) rfl (w.heap.size + 1 + 1) (crC cr0) (crC (v, false, true, m)) 23 rfl rfl (KR (crC (v, false, true, m))) rfl (cr_inf _) (cr_one _) ?_
             intro w3 h3 n3))
        refine bodyPost_ret (results_cell_row rfl _ _ (w.heap.size + 1 + 1) 23 (crC (v, false, true, m)) (0, 0) _ rfl h3.blk Try.underlying23 rfl (cr_inf _)) rfl ?_
        exact ⟨rfl, (BB (crC (v, false, true, m))).trans (n3.below _ (by omega) (BB (crC (v, false, true, m))).size)⟩
    · cases hz : (l == 0)
      · skip
        go_enter Try.func26, Try.ntmps26
        go_wp2_with fail
        go_region
        all_goals
          go_wp2_with (first
            | (refine wpList_load_row rfl 23 (.tmp 3) rfl (w.heap.size + 1) rfl 23 (crC (u, x, true, l)) (0, 0) _ (KB (crC (u, x, true, l))).drew.blk Try.underlying23 rfl (cr_inf _) ?_)
            | (refine wpList_store_blk rfl 23 (.tmp 4) (.tmp 31) rfl (w.heap.size + 1 + 1) (crC cr0) (crC (u, x, true, l)) 23 rfl rfl (KR (crC (u, x, true, l))).drew rfl (cr_inf _) (cr_one _) ?_
               intro w3 h3 n3))
          refine bodyPost_ret (results_cell_row rfl _ _ (w.heap.size + 1 + 1) 23 (crC (u, x, true, l)) (0, 0) _ rfl h3.blk Try.underlying23 rfl (cr_inf _)) rfl ?_
          exact ⟨rfl, (BB (crC (u, x, true, l))).drew.trans (n3.below _ (by omega) (BB (crC (u, x, true, l))).drew.size)⟩
      · skip
        go_enter Try.func26, Try.ntmps26
        go_wp2_with fail
        go_region
        all_goals
          go_wp2_with (first
            | (refine wpList_load_row rfl 23 (.tmp 3) rfl (w.heap.size + 1) rfl 23 (crC (u, x, true, m)) (0, 0) _ (KB (crC (u, x, true, m))).drew.blk Try.underlying23 rfl (cr_inf _) ?_)
            | (refine wpList_store_blk rfl 23 (.tmp 4) (.tmp 31) rfl (w.heap.size + 1 + 1) (crC cr0) (crC (u, x, true, m)) 23 rfl rfl (KR (crC (u, x, true, m))).drew rfl (cr_inf _) (cr_one _) ?_
               intro w3 h3 n3))
          refine bodyPost_ret (results_cell_row rfl _ _ (w.heap.size + 1 + 1) 23 (crC (u, x, true, m)) (0, 0) _ rfl h3.blk Try.underlying23 rfl (cr_inf _)) rfl ?_
          exact ⟨rfl, (BB (crC (u, x, true, m))).drew.trans (n3.below _ (by omega) (BB (crC (u, x, true, m))).drew.size)⟩
theorem cr_guard : Try.prog.eqGuardType Try.prog.depth 23 = false := by kernel_rfl
theorem class_eql_cr {ops : Array Oper} {S : World → Prop} {Q : Act → Prop} {a : Act} {o : Oper} {rest : List Oper} (hw : Region.wanted o (yielded ops a.tmps) = true) (x y : Operand) (ho : o.op = .binOp .eql 23 x y 23)
    (s s' : Cr) (hx : a.eval x = .agg (crC s)) (hy : a.eval y = .agg (crC s')) (b : Bool) (hb : sameC s s' = b)
    (h : wpQuiet Try.prog ops (fun w' => ∃ s : Sig S, w' = s.V) Q rest (a.put o.dst (.bool b))) : wpQuiet Try.prog ops (fun w' => ∃ s : Sig S, w' = s.V) Q (o :: rest) a :=
  wpQuiet_step fun K hK => by
    rw [if_pos hw]
    refine ⟨.bool b, ?_, hK _ h⟩
    rintro w ⟨s1, rfl⟩
    have hrun := run_eql_cr s s' s1.V
    rw [hb] at hrun
    unfold Oper.quietAt execOp
    simp only [ho, hx, hy, Sem.run_bind, run_eqGuard_agg s1.V .eql 23 x y _ _ cr_guard, hrun, Result.andThen_ok]
    exact ⟨rfl, rfl⟩
structure B2 (w0 w : World) (a b : Cr) (V : World) : Prop where
  bel : Below w0.heap.size w0 V
  ka : Blk V w.heap.size (crC a) 23
  kb : Blk V (w.heap.size + 1) (crC b) 23
theorem B2.step {w0 w V V' : World} {a b : Cr} (h : B2 w0 w a b V) (bb : Below V.heap.size V V') : B2 w0 w a b V' := ⟨h.bel.trans (bb.mono h.bel.size), h.ka.below bb h.ka.lt, h.kb.below bb h.kb.lt⟩
set_option maxRecDepth 100000 in
set_option maxHeartbeats 2000000 in
theorem below_cr (a b : Cr) (w : World) : Calls Try.prog 11 #[crV a, crV b] w fun e w' => e = .returned (.bool (beC a b)) ∧ Below w.heap.size w w' := by
  have ka := (Blk.new w (crC a) 23).alloc (.cells (crC b) 23)
  have kb := Blk.new_ (w.alloc (.cells (crC a) 23)) (crC b) 23 (n := w.heap.size + 1) (by simp)
  have B0 := ((Below.refl w.heap.size w).alloc (Nat.le_refl _) (.cells (crC a) 23)).alloc (by simp) (.cells (crC b) 23)
  have J0 : B2 w w a b ((w.alloc (.cells (crC a) 23)).alloc (.cells (crC b) 23)).drew := ⟨B0.drew, ka.drew, kb.drew⟩
  have hne0 : Nonempty (Sig (B2 w w a b)) := ⟨⟨_, J0⟩⟩
  have CA : ∀ V, B2 w w a b V → Calls Try.prog 9 #[crV a] V fun e w' => e = .returned (.int .i64 (chkC a)) ∧ B2 w w a b w' := fun V h => (check_cr a V).mono fun e w' ⟨he, bb⟩ => ⟨he, h.step bb⟩
  have CB : ∀ V, B2 w w a b V → Calls Try.prog 9 #[crV b] V fun e w' => e = .returned (.int .i64 (chkC b)) ∧ B2 w w a b w' := fun V h => (check_cr b V).mono fun e w' ⟨he, bb⟩ => ⟨he, h.step bb⟩
  have CT : ∀ V, B2 w w a b V → Calls Try.prog 26 #[crV a, crV b] V fun e w' => e = .returned (crV (toC a b)) ∧ B2 w w a b w' := fun V h => (toward_cr a b V).mono fun e w' ⟨he, bb⟩ => ⟨he, h.step bb⟩
  have hbe : beC a b = (if chkC a = 0 then if chkC b = 0 then sameC a (toC a b) else false else false) := by
    unfold beC chkC
    cases rightC a <;> cases rightC b <;> rfl
  obtain ⟨E, hE⟩ : ∃ E, beC a b = E := ⟨_, rfl⟩
  rw [hE] at hbe ⊢
  clear hE
  obtain ⟨r, hr⟩ : ∃ r, sameC a (toC a b) = r := ⟨_, rfl⟩
  rw [hr] at hbe
  have HR := Lib.hid hr
  clear hr
  have hca := chkC_or a
  have hcb := chkC_or b
  generalize chkC a = x at CA hbe hca
  generalize chkC b = y at CB hbe hcb
  have HA := Lib.hid CA
  have HB := Lib.hid CB
  have HT := Lib.hid CT
  clear CA CB CT ka kb
  unfold crV at HA HB HT ⊢
  rcases hca with ⟨_, rfl⟩ | ⟨_, rfl⟩
  · rcases hcb with ⟨_, rfl⟩ | ⟨_, rfl⟩
    · have HE := Lib.hid hbe
      clear hbe
      go_enter Try.func11, Try.ntmps11
      go_wp2_with fail
      refine region_class (S := B2 w w a b) (by kernel_rfl) (by kernel_rfl) J0 ?_
      refine class_load (by rfl) 23 (.tmp 2) rfl w.heap.size rfl (crC a) 23 _ (fun _ h => h.ka) Try.underlying23 rfl (cr_inf a) ?_
      simp only [Act.put, List.setIfInBounds_toArray, List.set_cons_zero, List.set_cons_succ]
      iterate 3 (go_big_quiet_step (first | (go_at_call 9; exact class_call _ HA.out)))
      refine class_load (by rfl) 23 (.tmp 3) rfl (w.heap.size + 1) rfl (crC b) 23 _ (fun _ h => h.kb) Try.underlying23 rfl (cr_inf b) ?_
      simp only [Act.put, List.setIfInBounds_toArray, List.set_cons_zero, List.set_cons_succ]
      iterate 4 (go_big_quiet_step (first | (go_at_call 9; exact class_call _ HB.out)))
      refine class_load (by rfl) 23 (.tmp 2) rfl w.heap.size rfl (crC a) 23 _ (fun _ h => h.ka) Try.underlying23 rfl (cr_inf a) ?_
      simp only [Act.put, List.setIfInBounds_toArray, List.set_cons_zero, List.set_cons_succ]
      refine class_load (by rfl) 23 (.tmp 2) rfl w.heap.size rfl (crC a) 23 _ (fun _ h => h.ka) Try.underlying23 rfl (cr_inf a) ?_
      simp only [Act.put, List.setIfInBounds_toArray, List.set_cons_zero, List.set_cons_succ]
      refine class_load (by rfl) 23 (.tmp 3) rfl (w.heap.size + 1) rfl (crC b) 23 _ (fun _ h => h.kb) Try.underlying23 rfl (cr_inf b) ?_
      simp only [Act.put, List.setIfInBounds_toArray, List.set_cons_zero, List.set_cons_succ]
      go_big_quiet_step ((go_at_call 26; exact class_call _ HT.out))
      refine class_eql_cr (by rfl) (.tmp 14) (.tmp 17) rfl a (toC a b) rfl rfl r HR.out ?_
      simp only [Act.put, List.setIfInBounds_toArray, List.set_cons_zero, List.set_cons_succ]
      repeat (go_big_quiet_step (fail))
      refine wpQuiet_nil ?_
      rintro _ ⟨s7, rfl⟩
      have J7 := s7.h
      go_wp2_with fail
      go_ret
      exact ⟨by rw [HE.out]; rfl, J7.bel⟩
    · have HE := Lib.hid hbe
      clear hbe
      go_enter Try.func11, Try.ntmps11
      go_wp2_with fail
      refine region_class (S := B2 w w a b) (by kernel_rfl) (by kernel_rfl) J0 ?_
      refine class_load (by rfl) 23 (.tmp 2) rfl w.heap.size rfl (crC a) 23 _ (fun _ h => h.ka) Try.underlying23 rfl (cr_inf a) ?_
      simp only [Act.put, List.setIfInBounds_toArray, List.set_cons_zero, List.set_cons_succ]
      iterate 3 (go_big_quiet_step (first | (go_at_call 9; exact class_call _ HA.out)))
      refine class_load (by rfl) 23 (.tmp 3) rfl (w.heap.size + 1) rfl (crC b) 23 _ (fun _ h => h.kb) Try.underlying23 rfl (cr_inf b) ?_
      simp only [Act.put, List.setIfInBounds_toArray, List.set_cons_zero, List.set_cons_succ]
      repeat (go_big_quiet_step (first | (go_at_call 9; exact class_call _ HB.out)))
      refine wpQuiet_nil ?_
      rintro _ ⟨s7, rfl⟩
      have J7 := s7.h
      go_wp2_with fail
      go_ret
      exact ⟨by rw [HE.out]; rfl, J7.bel⟩
  · have HE := Lib.hid hbe
    clear hbe
    go_enter Try.func11, Try.ntmps11
    go_wp2_with fail
    refine region_class (S := B2 w w a b) (by kernel_rfl) (by kernel_rfl) J0 ?_
    refine class_load (by rfl) 23 (.tmp 2) rfl w.heap.size rfl (crC a) 23 _ (fun _ h => h.ka) Try.underlying23 rfl (cr_inf a) ?_
    simp only [Act.put, List.setIfInBounds_toArray, List.set_cons_zero, List.set_cons_succ]
    repeat (go_big_quiet_step (first | (go_at_call 9; exact class_call _ HA.out)))
    refine wpQuiet_nil ?_
    rintro _ ⟨s7, rfl⟩
    have J7 := s7.h
    go_wp2_with fail
    go_ret
    exact ⟨by rw [HE.out]; rfl, J7.bel⟩
end Go.Proofs.Yteoeflainejaaaa
