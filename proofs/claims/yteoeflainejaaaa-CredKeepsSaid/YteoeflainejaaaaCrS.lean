/-
  The reference's Below; wakes.
-/
import Derived.Test.YteoeflainejaaaaCrR
namespace Go.Proofs.Yteoeflainejaaaa
open Go.RowKit Go.Shelf
set_option linter.unusedVariables false
set_option linter.unusedSimpArgs false

theorem wpListG_eql_cr {ops : Array Oper} {rest : List Oper} {o : Oper} {a : Act} {w : World} {Q : Exit → Act → World → Prop} (hw : Region.wanted o (yielded ops a.tmps) = true) (x y : Operand) (ho : o.op = .binOp .eql 23 x y 23)
    (s s' : Cr) (hx : a.eval x = .agg (crC s)) (hy : a.eval y = .agg (crC s')) (b : Bool) (hb : sameC s s' = b) (h : wpList Try.prog ops Q rest (a.put o.dst (.bool b)) w) : wpList Try.prog ops Q (o :: rest) a w :=
  wpListG_at hw fun _ hK => by
    have hrun := run_eql_cr s s' w
    rw [hb] at hrun
    unfold Oper.wp execOp
    simp only [ho, hx, hy, Sem.run_bind, run_eqGuard_agg w .eql 23 x y _ _ cr_guard, hrun, Result.andThen_ok]
    exact hK _ _ h
set_option maxRecDepth 100000 in
set_option maxHeartbeats 2000000 in
theorem rbelow_cr (a b : Cr) (w : World) : Calls Try.prog 12 #[crV a, crV b] w fun e w' => e = .returned (.bool (beD a b)) ∧ Below w.heap.size w w' := by
  obtain ⟨u, x, n, m⟩ := a
  obtain ⟨v, y, k, l⟩ := b
  have ka := (Blk.new w (crC (u, x, n, m)) 23).alloc (.cells (crC (v, y, k, l)) 23)
  have kb := Blk.new_ (w.alloc (.cells (crC (u, x, n, m)) 23)) (crC (v, y, k, l)) 23 (n := w.heap.size + 1) (by simp)
  have B0 := ((Below.refl w.heap.size w).alloc (Nat.le_refl _) (.cells (crC (u, x, n, m)) 23)).alloc (by simp) (.cells (crC (v, y, k, l)) 23)
  have HRA := Lib.hid (fun V => rright_cr (u, x, n, m) V)
  have HRB := Lib.hid (fun V => rright_cr (v, y, k, l) V)
  obtain ⟨G, hG⟩ : ∃ G, beD (u, x, n, m) (v, y, k, l) = G := ⟨_, rfl⟩
  have hg : G = (rightC (u, x, n, m) && rightC (v, y, k, l) && !(k && !n) && !(decide (0 < l) && (m != l)) && !(k && (u != v) && !y) && !(k && x && !y)) := hG.symm
  rw [hG]
  clear hG
  generalize rightC (u, x, n, m) = ra at HRA hg
  generalize rightC (v, y, k, l) = rb at HRB hg
  generalize hw0 : (w.alloc (.cells (crC (u, x, n, m)) 23)).alloc (.cells (crC (v, y, k, l)) 23) = w0 at ka kb B0
  have enter : ∀ w1, Below w0.heap.size w0 w1 → Blk w1 w.heap.size (crC (u, x, n, m)) 23 ∧ Blk w1 (w.heap.size + 1) (crC (v, y, k, l)) 23 ∧ Below w.heap.size w w1 := fun w1 bb => ⟨ka.below bb ka.lt, kb.below bb kb.lt, B0.trans (bb.mono B0.size)⟩
  subst hw0
  unfold crV at HRA HRB ⊢
  cases ra
  · skip
    have HG := Lib.hid hg
    clear hg
    go_enter Try.func12, Try.ntmps12
    go_wp2_with (first
      | (refine wpListG_load (by rfl) 23 (.tmp 2) rfl w.heap.size rfl 23 (crC (u, x, n, m)) _ ka Try.underlying23 rfl (cr_inf _) ?_)
      | (refine (HRA.out _).mono ?_; clear HRA; rintro e w1 ⟨rfl, bb⟩; obtain ⟨k1, k2, b1⟩ := enter w1 bb; have qa0w1 : w1.cell? ⟨w.heap.size, 0, none⟩ = some (.int .i64 u) := k1.cell 0; have qa1w1 : w1.cell? ⟨w.heap.size, 1, none⟩ = some (.bool x) := k1.cell 1; have qa2w1 : w1.cell? ⟨w.heap.size, 2, none⟩ = some (.bool n) := k1.cell 2; have qa3w1 : w1.cell? ⟨w.heap.size, 3, none⟩ = some (.int .i64 m) := k1.cell 3; have qb0w1 : w1.cell? ⟨w.heap.size + 1, 0, none⟩ = some (.int .i64 v) := k2.cell 0; have qb1w1 : w1.cell? ⟨w.heap.size + 1, 1, none⟩ = some (.bool y) := k2.cell 1; have qb2w1 : w1.cell? ⟨w.heap.size + 1, 2, none⟩ = some (.bool k) := k2.cell 2; have qb3w1 : w1.cell? ⟨w.heap.size + 1, 3, none⟩ = some (.int .i64 l) := k2.cell 3))
    go_ret
    exact ⟨by rw [HG.out]; rfl, b1⟩
  · skip
    cases rb
    · skip
      have HG := Lib.hid hg
      clear hg
      go_enter Try.func12, Try.ntmps12
      go_wp2_with (first
        | (refine wpListG_load (by rfl) 23 (.tmp 2) rfl w.heap.size rfl 23 (crC (u, x, n, m)) _ ka Try.underlying23 rfl (cr_inf _) ?_)
        | (refine (HRA.out _).mono ?_; clear HRA; rintro e w1 ⟨rfl, bb⟩; obtain ⟨k1, k2, b1⟩ := enter w1 bb; have qa0w1 : w1.cell? ⟨w.heap.size, 0, none⟩ = some (.int .i64 u) := k1.cell 0; have qa1w1 : w1.cell? ⟨w.heap.size, 1, none⟩ = some (.bool x) := k1.cell 1; have qa2w1 : w1.cell? ⟨w.heap.size, 2, none⟩ = some (.bool n) := k1.cell 2; have qa3w1 : w1.cell? ⟨w.heap.size, 3, none⟩ = some (.int .i64 m) := k1.cell 3; have qb0w1 : w1.cell? ⟨w.heap.size + 1, 0, none⟩ = some (.int .i64 v) := k2.cell 0; have qb1w1 : w1.cell? ⟨w.heap.size + 1, 1, none⟩ = some (.bool y) := k2.cell 1; have qb2w1 : w1.cell? ⟨w.heap.size + 1, 2, none⟩ = some (.bool k) := k2.cell 2; have qb3w1 : w1.cell? ⟨w.heap.size + 1, 3, none⟩ = some (.int .i64 l) := k2.cell 3)
        | (refine wpListG_load (by rfl) 23 (.tmp 3) rfl (w.heap.size + 1) rfl 23 (crC (v, y, k, l)) _ k2 Try.underlying23 rfl (cr_inf _) ?_)
        | (refine (HRB.out _).mono ?_; clear HRB; rintro e w2 ⟨rfl, bb2⟩; have k11 := k1.below bb2 k1.lt; have k21 := k2.below bb2 k2.lt; have b2 := b1.trans (bb2.mono b1.size); have qa0w2 : w2.cell? ⟨w.heap.size, 0, none⟩ = some (.int .i64 u) := k11.cell 0; have qa1w2 : w2.cell? ⟨w.heap.size, 1, none⟩ = some (.bool x) := k11.cell 1; have qa2w2 : w2.cell? ⟨w.heap.size, 2, none⟩ = some (.bool n) := k11.cell 2; have qa3w2 : w2.cell? ⟨w.heap.size, 3, none⟩ = some (.int .i64 m) := k11.cell 3; have qb0w2 : w2.cell? ⟨w.heap.size + 1, 0, none⟩ = some (.int .i64 v) := k21.cell 0; have qb1w2 : w2.cell? ⟨w.heap.size + 1, 1, none⟩ = some (.bool y) := k21.cell 1; have qb2w2 : w2.cell? ⟨w.heap.size + 1, 2, none⟩ = some (.bool k) := k21.cell 2; have qb3w2 : w2.cell? ⟨w.heap.size + 1, 3, none⟩ = some (.int .i64 l) := k21.cell 3))
      go_ret
      exact ⟨by rw [HG.out]; rfl, b2⟩
    · skip
      cases k
      · skip
        cases h1 : decide (0 < l)
        · skip
          rw [h1] at hg
          have HG := Lib.hid hg
          clear hg
          go_enter Try.func12, Try.ntmps12
          go_wp2_with (first
            | (refine wpListG_load (by rfl) 23 (.tmp 2) rfl w.heap.size rfl 23 (crC (u, x, n, m)) _ ka Try.underlying23 rfl (cr_inf _) ?_)
            | (refine (HRA.out _).mono ?_; clear HRA; rintro e w1 ⟨rfl, bb⟩; obtain ⟨k1, k2, b1⟩ := enter w1 bb; have qa0w1 : w1.cell? ⟨w.heap.size, 0, none⟩ = some (.int .i64 u) := k1.cell 0; have qa1w1 : w1.cell? ⟨w.heap.size, 1, none⟩ = some (.bool x) := k1.cell 1; have qa2w1 : w1.cell? ⟨w.heap.size, 2, none⟩ = some (.bool n) := k1.cell 2; have qa3w1 : w1.cell? ⟨w.heap.size, 3, none⟩ = some (.int .i64 m) := k1.cell 3; have qb0w1 : w1.cell? ⟨w.heap.size + 1, 0, none⟩ = some (.int .i64 v) := k2.cell 0; have qb1w1 : w1.cell? ⟨w.heap.size + 1, 1, none⟩ = some (.bool y) := k2.cell 1; have qb2w1 : w1.cell? ⟨w.heap.size + 1, 2, none⟩ = some (.bool false) := k2.cell 2; have qb3w1 : w1.cell? ⟨w.heap.size + 1, 3, none⟩ = some (.int .i64 l) := k2.cell 3)
            | (refine wpListG_load (by rfl) 23 (.tmp 3) rfl (w.heap.size + 1) rfl 23 (crC (v, y, false, l)) _ k2 Try.underlying23 rfl (cr_inf _) ?_)
            | (refine (HRB.out _).mono ?_; clear HRB; rintro e w2 ⟨rfl, bb2⟩; have k11 := k1.below bb2 k1.lt; have k21 := k2.below bb2 k2.lt; have b2 := b1.trans (bb2.mono b1.size); have qa0w2 : w2.cell? ⟨w.heap.size, 0, none⟩ = some (.int .i64 u) := k11.cell 0; have qa1w2 : w2.cell? ⟨w.heap.size, 1, none⟩ = some (.bool x) := k11.cell 1; have qa2w2 : w2.cell? ⟨w.heap.size, 2, none⟩ = some (.bool n) := k11.cell 2; have qa3w2 : w2.cell? ⟨w.heap.size, 3, none⟩ = some (.int .i64 m) := k11.cell 3; have qb0w2 : w2.cell? ⟨w.heap.size + 1, 0, none⟩ = some (.int .i64 v) := k21.cell 0; have qb1w2 : w2.cell? ⟨w.heap.size + 1, 1, none⟩ = some (.bool y) := k21.cell 1; have qb2w2 : w2.cell? ⟨w.heap.size + 1, 2, none⟩ = some (.bool false) := k21.cell 2; have qb3w2 : w2.cell? ⟨w.heap.size + 1, 3, none⟩ = some (.int .i64 l) := k21.cell 3))
          go_ret
          exact ⟨by rw [HG.out]; rfl, b2⟩
        · skip
          rw [h1] at hg
          cases h2 : (m != l)
          · skip
            rw [h2] at hg
            have HG := Lib.hid hg
            clear hg
            go_enter Try.func12, Try.ntmps12
            go_wp2_with (first
              | (refine wpListG_load (by rfl) 23 (.tmp 2) rfl w.heap.size rfl 23 (crC (u, x, n, m)) _ ka Try.underlying23 rfl (cr_inf _) ?_)
              | (refine (HRA.out _).mono ?_; clear HRA; rintro e w1 ⟨rfl, bb⟩; obtain ⟨k1, k2, b1⟩ := enter w1 bb; have qa0w1 : w1.cell? ⟨w.heap.size, 0, none⟩ = some (.int .i64 u) := k1.cell 0; have qa1w1 : w1.cell? ⟨w.heap.size, 1, none⟩ = some (.bool x) := k1.cell 1; have qa2w1 : w1.cell? ⟨w.heap.size, 2, none⟩ = some (.bool n) := k1.cell 2; have qa3w1 : w1.cell? ⟨w.heap.size, 3, none⟩ = some (.int .i64 m) := k1.cell 3; have qb0w1 : w1.cell? ⟨w.heap.size + 1, 0, none⟩ = some (.int .i64 v) := k2.cell 0; have qb1w1 : w1.cell? ⟨w.heap.size + 1, 1, none⟩ = some (.bool y) := k2.cell 1; have qb2w1 : w1.cell? ⟨w.heap.size + 1, 2, none⟩ = some (.bool false) := k2.cell 2; have qb3w1 : w1.cell? ⟨w.heap.size + 1, 3, none⟩ = some (.int .i64 l) := k2.cell 3)
              | (refine wpListG_load (by rfl) 23 (.tmp 3) rfl (w.heap.size + 1) rfl 23 (crC (v, y, false, l)) _ k2 Try.underlying23 rfl (cr_inf _) ?_)
              | (refine (HRB.out _).mono ?_; clear HRB; rintro e w2 ⟨rfl, bb2⟩; have k11 := k1.below bb2 k1.lt; have k21 := k2.below bb2 k2.lt; have b2 := b1.trans (bb2.mono b1.size); have qa0w2 : w2.cell? ⟨w.heap.size, 0, none⟩ = some (.int .i64 u) := k11.cell 0; have qa1w2 : w2.cell? ⟨w.heap.size, 1, none⟩ = some (.bool x) := k11.cell 1; have qa2w2 : w2.cell? ⟨w.heap.size, 2, none⟩ = some (.bool n) := k11.cell 2; have qa3w2 : w2.cell? ⟨w.heap.size, 3, none⟩ = some (.int .i64 m) := k11.cell 3; have qb0w2 : w2.cell? ⟨w.heap.size + 1, 0, none⟩ = some (.int .i64 v) := k21.cell 0; have qb1w2 : w2.cell? ⟨w.heap.size + 1, 1, none⟩ = some (.bool y) := k21.cell 1; have qb2w2 : w2.cell? ⟨w.heap.size + 1, 2, none⟩ = some (.bool false) := k21.cell 2; have qb3w2 : w2.cell? ⟨w.heap.size + 1, 3, none⟩ = some (.int .i64 l) := k21.cell 3))
            go_ret
            exact ⟨by rw [HG.out]; rfl, b2⟩
          · skip
            rw [h2] at hg
            have HG := Lib.hid hg
            clear hg
            go_enter Try.func12, Try.ntmps12
            go_wp2_with (first
              | (refine wpListG_load (by rfl) 23 (.tmp 2) rfl w.heap.size rfl 23 (crC (u, x, n, m)) _ ka Try.underlying23 rfl (cr_inf _) ?_)
              | (refine (HRA.out _).mono ?_; clear HRA; rintro e w1 ⟨rfl, bb⟩; obtain ⟨k1, k2, b1⟩ := enter w1 bb; have qa0w1 : w1.cell? ⟨w.heap.size, 0, none⟩ = some (.int .i64 u) := k1.cell 0; have qa1w1 : w1.cell? ⟨w.heap.size, 1, none⟩ = some (.bool x) := k1.cell 1; have qa2w1 : w1.cell? ⟨w.heap.size, 2, none⟩ = some (.bool n) := k1.cell 2; have qa3w1 : w1.cell? ⟨w.heap.size, 3, none⟩ = some (.int .i64 m) := k1.cell 3; have qb0w1 : w1.cell? ⟨w.heap.size + 1, 0, none⟩ = some (.int .i64 v) := k2.cell 0; have qb1w1 : w1.cell? ⟨w.heap.size + 1, 1, none⟩ = some (.bool y) := k2.cell 1; have qb2w1 : w1.cell? ⟨w.heap.size + 1, 2, none⟩ = some (.bool false) := k2.cell 2; have qb3w1 : w1.cell? ⟨w.heap.size + 1, 3, none⟩ = some (.int .i64 l) := k2.cell 3)
              | (refine wpListG_load (by rfl) 23 (.tmp 3) rfl (w.heap.size + 1) rfl 23 (crC (v, y, false, l)) _ k2 Try.underlying23 rfl (cr_inf _) ?_)
              | (refine (HRB.out _).mono ?_; clear HRB; rintro e w2 ⟨rfl, bb2⟩; have k11 := k1.below bb2 k1.lt; have k21 := k2.below bb2 k2.lt; have b2 := b1.trans (bb2.mono b1.size); have qa0w2 : w2.cell? ⟨w.heap.size, 0, none⟩ = some (.int .i64 u) := k11.cell 0; have qa1w2 : w2.cell? ⟨w.heap.size, 1, none⟩ = some (.bool x) := k11.cell 1; have qa2w2 : w2.cell? ⟨w.heap.size, 2, none⟩ = some (.bool n) := k11.cell 2; have qa3w2 : w2.cell? ⟨w.heap.size, 3, none⟩ = some (.int .i64 m) := k11.cell 3; have qb0w2 : w2.cell? ⟨w.heap.size + 1, 0, none⟩ = some (.int .i64 v) := k21.cell 0; have qb1w2 : w2.cell? ⟨w.heap.size + 1, 1, none⟩ = some (.bool y) := k21.cell 1; have qb2w2 : w2.cell? ⟨w.heap.size + 1, 2, none⟩ = some (.bool false) := k21.cell 2; have qb3w2 : w2.cell? ⟨w.heap.size + 1, 3, none⟩ = some (.int .i64 l) := k21.cell 3))
            go_ret
            exact ⟨by rw [HG.out]; rfl, b2⟩
      · skip
        cases n
        · skip
          have HG := Lib.hid hg
          clear hg
          go_enter Try.func12, Try.ntmps12
          go_wp2_with (first
            | (refine wpListG_load (by rfl) 23 (.tmp 2) rfl w.heap.size rfl 23 (crC (u, x, false, m)) _ ka Try.underlying23 rfl (cr_inf _) ?_)
            | (refine (HRA.out _).mono ?_; clear HRA; rintro e w1 ⟨rfl, bb⟩; obtain ⟨k1, k2, b1⟩ := enter w1 bb; have qa0w1 : w1.cell? ⟨w.heap.size, 0, none⟩ = some (.int .i64 u) := k1.cell 0; have qa1w1 : w1.cell? ⟨w.heap.size, 1, none⟩ = some (.bool x) := k1.cell 1; have qa2w1 : w1.cell? ⟨w.heap.size, 2, none⟩ = some (.bool false) := k1.cell 2; have qa3w1 : w1.cell? ⟨w.heap.size, 3, none⟩ = some (.int .i64 m) := k1.cell 3; have qb0w1 : w1.cell? ⟨w.heap.size + 1, 0, none⟩ = some (.int .i64 v) := k2.cell 0; have qb1w1 : w1.cell? ⟨w.heap.size + 1, 1, none⟩ = some (.bool y) := k2.cell 1; have qb2w1 : w1.cell? ⟨w.heap.size + 1, 2, none⟩ = some (.bool true) := k2.cell 2; have qb3w1 : w1.cell? ⟨w.heap.size + 1, 3, none⟩ = some (.int .i64 l) := k2.cell 3)
            | (refine wpListG_load (by rfl) 23 (.tmp 3) rfl (w.heap.size + 1) rfl 23 (crC (v, y, true, l)) _ k2 Try.underlying23 rfl (cr_inf _) ?_)
            | (refine (HRB.out _).mono ?_; clear HRB; rintro e w2 ⟨rfl, bb2⟩; have k11 := k1.below bb2 k1.lt; have k21 := k2.below bb2 k2.lt; have b2 := b1.trans (bb2.mono b1.size); have qa0w2 : w2.cell? ⟨w.heap.size, 0, none⟩ = some (.int .i64 u) := k11.cell 0; have qa1w2 : w2.cell? ⟨w.heap.size, 1, none⟩ = some (.bool x) := k11.cell 1; have qa2w2 : w2.cell? ⟨w.heap.size, 2, none⟩ = some (.bool false) := k11.cell 2; have qa3w2 : w2.cell? ⟨w.heap.size, 3, none⟩ = some (.int .i64 m) := k11.cell 3; have qb0w2 : w2.cell? ⟨w.heap.size + 1, 0, none⟩ = some (.int .i64 v) := k21.cell 0; have qb1w2 : w2.cell? ⟨w.heap.size + 1, 1, none⟩ = some (.bool y) := k21.cell 1; have qb2w2 : w2.cell? ⟨w.heap.size + 1, 2, none⟩ = some (.bool true) := k21.cell 2; have qb3w2 : w2.cell? ⟨w.heap.size + 1, 3, none⟩ = some (.int .i64 l) := k21.cell 3))
          go_ret
          exact ⟨by rw [HG.out]; rfl, b2⟩
        · skip
          cases h1 : decide (0 < l)
          · skip
            rw [h1] at hg
            cases h3 : (u != v)
            · skip
              rw [h3] at hg
              cases x
              · skip
                have HG := Lib.hid hg
                clear hg
                go_enter Try.func12, Try.ntmps12
                go_wp2_with (first
                  | (refine wpListG_load (by rfl) 23 (.tmp 2) rfl w.heap.size rfl 23 (crC (u, false, true, m)) _ ka Try.underlying23 rfl (cr_inf _) ?_)
                  | (refine (HRA.out _).mono ?_; clear HRA; rintro e w1 ⟨rfl, bb⟩; obtain ⟨k1, k2, b1⟩ := enter w1 bb; have qa0w1 : w1.cell? ⟨w.heap.size, 0, none⟩ = some (.int .i64 u) := k1.cell 0; have qa1w1 : w1.cell? ⟨w.heap.size, 1, none⟩ = some (.bool false) := k1.cell 1; have qa2w1 : w1.cell? ⟨w.heap.size, 2, none⟩ = some (.bool true) := k1.cell 2; have qa3w1 : w1.cell? ⟨w.heap.size, 3, none⟩ = some (.int .i64 m) := k1.cell 3; have qb0w1 : w1.cell? ⟨w.heap.size + 1, 0, none⟩ = some (.int .i64 v) := k2.cell 0; have qb1w1 : w1.cell? ⟨w.heap.size + 1, 1, none⟩ = some (.bool y) := k2.cell 1; have qb2w1 : w1.cell? ⟨w.heap.size + 1, 2, none⟩ = some (.bool true) := k2.cell 2; have qb3w1 : w1.cell? ⟨w.heap.size + 1, 3, none⟩ = some (.int .i64 l) := k2.cell 3)
                  | (refine wpListG_load (by rfl) 23 (.tmp 3) rfl (w.heap.size + 1) rfl 23 (crC (v, y, true, l)) _ k2 Try.underlying23 rfl (cr_inf _) ?_)
                  | (refine (HRB.out _).mono ?_; clear HRB; rintro e w2 ⟨rfl, bb2⟩; have k11 := k1.below bb2 k1.lt; have k21 := k2.below bb2 k2.lt; have b2 := b1.trans (bb2.mono b1.size); have qa0w2 : w2.cell? ⟨w.heap.size, 0, none⟩ = some (.int .i64 u) := k11.cell 0; have qa1w2 : w2.cell? ⟨w.heap.size, 1, none⟩ = some (.bool false) := k11.cell 1; have qa2w2 : w2.cell? ⟨w.heap.size, 2, none⟩ = some (.bool true) := k11.cell 2; have qa3w2 : w2.cell? ⟨w.heap.size, 3, none⟩ = some (.int .i64 m) := k11.cell 3; have qb0w2 : w2.cell? ⟨w.heap.size + 1, 0, none⟩ = some (.int .i64 v) := k21.cell 0; have qb1w2 : w2.cell? ⟨w.heap.size + 1, 1, none⟩ = some (.bool y) := k21.cell 1; have qb2w2 : w2.cell? ⟨w.heap.size + 1, 2, none⟩ = some (.bool true) := k21.cell 2; have qb3w2 : w2.cell? ⟨w.heap.size + 1, 3, none⟩ = some (.int .i64 l) := k21.cell 3))
                go_ret
                exact ⟨by rw [HG.out]; rfl, b2⟩
              · skip
                cases y
                · skip
                  have HG := Lib.hid hg
                  clear hg
                  go_enter Try.func12, Try.ntmps12
                  go_wp2_with (first
                    | (refine wpListG_load (by rfl) 23 (.tmp 2) rfl w.heap.size rfl 23 (crC (u, true, true, m)) _ ka Try.underlying23 rfl (cr_inf _) ?_)
                    | (refine (HRA.out _).mono ?_; clear HRA; rintro e w1 ⟨rfl, bb⟩; obtain ⟨k1, k2, b1⟩ := enter w1 bb; have qa0w1 : w1.cell? ⟨w.heap.size, 0, none⟩ = some (.int .i64 u) := k1.cell 0; have qa1w1 : w1.cell? ⟨w.heap.size, 1, none⟩ = some (.bool true) := k1.cell 1; have qa2w1 : w1.cell? ⟨w.heap.size, 2, none⟩ = some (.bool true) := k1.cell 2; have qa3w1 : w1.cell? ⟨w.heap.size, 3, none⟩ = some (.int .i64 m) := k1.cell 3; have qb0w1 : w1.cell? ⟨w.heap.size + 1, 0, none⟩ = some (.int .i64 v) := k2.cell 0; have qb1w1 : w1.cell? ⟨w.heap.size + 1, 1, none⟩ = some (.bool false) := k2.cell 1; have qb2w1 : w1.cell? ⟨w.heap.size + 1, 2, none⟩ = some (.bool true) := k2.cell 2; have qb3w1 : w1.cell? ⟨w.heap.size + 1, 3, none⟩ = some (.int .i64 l) := k2.cell 3)
                    | (refine wpListG_load (by rfl) 23 (.tmp 3) rfl (w.heap.size + 1) rfl 23 (crC (v, false, true, l)) _ k2 Try.underlying23 rfl (cr_inf _) ?_)
                    | (refine (HRB.out _).mono ?_; clear HRB; rintro e w2 ⟨rfl, bb2⟩; have k11 := k1.below bb2 k1.lt; have k21 := k2.below bb2 k2.lt; have b2 := b1.trans (bb2.mono b1.size); have qa0w2 : w2.cell? ⟨w.heap.size, 0, none⟩ = some (.int .i64 u) := k11.cell 0; have qa1w2 : w2.cell? ⟨w.heap.size, 1, none⟩ = some (.bool true) := k11.cell 1; have qa2w2 : w2.cell? ⟨w.heap.size, 2, none⟩ = some (.bool true) := k11.cell 2; have qa3w2 : w2.cell? ⟨w.heap.size, 3, none⟩ = some (.int .i64 m) := k11.cell 3; have qb0w2 : w2.cell? ⟨w.heap.size + 1, 0, none⟩ = some (.int .i64 v) := k21.cell 0; have qb1w2 : w2.cell? ⟨w.heap.size + 1, 1, none⟩ = some (.bool false) := k21.cell 1; have qb2w2 : w2.cell? ⟨w.heap.size + 1, 2, none⟩ = some (.bool true) := k21.cell 2; have qb3w2 : w2.cell? ⟨w.heap.size + 1, 3, none⟩ = some (.int .i64 l) := k21.cell 3))
                  go_ret
                  exact ⟨by rw [HG.out]; rfl, b2⟩
                · skip
                  have HG := Lib.hid hg
                  clear hg
                  go_enter Try.func12, Try.ntmps12
                  go_wp2_with (first
                    | (refine wpListG_load (by rfl) 23 (.tmp 2) rfl w.heap.size rfl 23 (crC (u, true, true, m)) _ ka Try.underlying23 rfl (cr_inf _) ?_)
                    | (refine (HRA.out _).mono ?_; clear HRA; rintro e w1 ⟨rfl, bb⟩; obtain ⟨k1, k2, b1⟩ := enter w1 bb; have qa0w1 : w1.cell? ⟨w.heap.size, 0, none⟩ = some (.int .i64 u) := k1.cell 0; have qa1w1 : w1.cell? ⟨w.heap.size, 1, none⟩ = some (.bool true) := k1.cell 1; have qa2w1 : w1.cell? ⟨w.heap.size, 2, none⟩ = some (.bool true) := k1.cell 2; have qa3w1 : w1.cell? ⟨w.heap.size, 3, none⟩ = some (.int .i64 m) := k1.cell 3; have qb0w1 : w1.cell? ⟨w.heap.size + 1, 0, none⟩ = some (.int .i64 v) := k2.cell 0; have qb1w1 : w1.cell? ⟨w.heap.size + 1, 1, none⟩ = some (.bool true) := k2.cell 1; have qb2w1 : w1.cell? ⟨w.heap.size + 1, 2, none⟩ = some (.bool true) := k2.cell 2; have qb3w1 : w1.cell? ⟨w.heap.size + 1, 3, none⟩ = some (.int .i64 l) := k2.cell 3)
                    | (refine wpListG_load (by rfl) 23 (.tmp 3) rfl (w.heap.size + 1) rfl 23 (crC (v, true, true, l)) _ k2 Try.underlying23 rfl (cr_inf _) ?_)
                    | (refine (HRB.out _).mono ?_; clear HRB; rintro e w2 ⟨rfl, bb2⟩; have k11 := k1.below bb2 k1.lt; have k21 := k2.below bb2 k2.lt; have b2 := b1.trans (bb2.mono b1.size); have qa0w2 : w2.cell? ⟨w.heap.size, 0, none⟩ = some (.int .i64 u) := k11.cell 0; have qa1w2 : w2.cell? ⟨w.heap.size, 1, none⟩ = some (.bool true) := k11.cell 1; have qa2w2 : w2.cell? ⟨w.heap.size, 2, none⟩ = some (.bool true) := k11.cell 2; have qa3w2 : w2.cell? ⟨w.heap.size, 3, none⟩ = some (.int .i64 m) := k11.cell 3; have qb0w2 : w2.cell? ⟨w.heap.size + 1, 0, none⟩ = some (.int .i64 v) := k21.cell 0; have qb1w2 : w2.cell? ⟨w.heap.size + 1, 1, none⟩ = some (.bool true) := k21.cell 1; have qb2w2 : w2.cell? ⟨w.heap.size + 1, 2, none⟩ = some (.bool true) := k21.cell 2; have qb3w2 : w2.cell? ⟨w.heap.size + 1, 3, none⟩ = some (.int .i64 l) := k21.cell 3))
                  go_ret
                  exact ⟨by rw [HG.out]; rfl, b2⟩
            · skip
              rw [h3] at hg
              cases y
              · skip
                have HG := Lib.hid hg
                clear hg
                go_enter Try.func12, Try.ntmps12
                go_wp2_with (first
                  | (refine wpListG_load (by rfl) 23 (.tmp 2) rfl w.heap.size rfl 23 (crC (u, x, true, m)) _ ka Try.underlying23 rfl (cr_inf _) ?_)
                  | (refine (HRA.out _).mono ?_; clear HRA; rintro e w1 ⟨rfl, bb⟩; obtain ⟨k1, k2, b1⟩ := enter w1 bb; have qa0w1 : w1.cell? ⟨w.heap.size, 0, none⟩ = some (.int .i64 u) := k1.cell 0; have qa1w1 : w1.cell? ⟨w.heap.size, 1, none⟩ = some (.bool x) := k1.cell 1; have qa2w1 : w1.cell? ⟨w.heap.size, 2, none⟩ = some (.bool true) := k1.cell 2; have qa3w1 : w1.cell? ⟨w.heap.size, 3, none⟩ = some (.int .i64 m) := k1.cell 3; have qb0w1 : w1.cell? ⟨w.heap.size + 1, 0, none⟩ = some (.int .i64 v) := k2.cell 0; have qb1w1 : w1.cell? ⟨w.heap.size + 1, 1, none⟩ = some (.bool false) := k2.cell 1; have qb2w1 : w1.cell? ⟨w.heap.size + 1, 2, none⟩ = some (.bool true) := k2.cell 2; have qb3w1 : w1.cell? ⟨w.heap.size + 1, 3, none⟩ = some (.int .i64 l) := k2.cell 3)
                  | (refine wpListG_load (by rfl) 23 (.tmp 3) rfl (w.heap.size + 1) rfl 23 (crC (v, false, true, l)) _ k2 Try.underlying23 rfl (cr_inf _) ?_)
                  | (refine (HRB.out _).mono ?_; clear HRB; rintro e w2 ⟨rfl, bb2⟩; have k11 := k1.below bb2 k1.lt; have k21 := k2.below bb2 k2.lt; have b2 := b1.trans (bb2.mono b1.size); have qa0w2 : w2.cell? ⟨w.heap.size, 0, none⟩ = some (.int .i64 u) := k11.cell 0; have qa1w2 : w2.cell? ⟨w.heap.size, 1, none⟩ = some (.bool x) := k11.cell 1; have qa2w2 : w2.cell? ⟨w.heap.size, 2, none⟩ = some (.bool true) := k11.cell 2; have qa3w2 : w2.cell? ⟨w.heap.size, 3, none⟩ = some (.int .i64 m) := k11.cell 3; have qb0w2 : w2.cell? ⟨w.heap.size + 1, 0, none⟩ = some (.int .i64 v) := k21.cell 0; have qb1w2 : w2.cell? ⟨w.heap.size + 1, 1, none⟩ = some (.bool false) := k21.cell 1; have qb2w2 : w2.cell? ⟨w.heap.size + 1, 2, none⟩ = some (.bool true) := k21.cell 2; have qb3w2 : w2.cell? ⟨w.heap.size + 1, 3, none⟩ = some (.int .i64 l) := k21.cell 3))
                go_ret
                exact ⟨by rw [HG.out]; rfl, b2⟩
              · skip
                cases x
                · skip
                  have HG := Lib.hid hg
                  clear hg
                  go_enter Try.func12, Try.ntmps12
                  go_wp2_with (first
                    | (refine wpListG_load (by rfl) 23 (.tmp 2) rfl w.heap.size rfl 23 (crC (u, false, true, m)) _ ka Try.underlying23 rfl (cr_inf _) ?_)
                    | (refine (HRA.out _).mono ?_; clear HRA; rintro e w1 ⟨rfl, bb⟩; obtain ⟨k1, k2, b1⟩ := enter w1 bb; have qa0w1 : w1.cell? ⟨w.heap.size, 0, none⟩ = some (.int .i64 u) := k1.cell 0; have qa1w1 : w1.cell? ⟨w.heap.size, 1, none⟩ = some (.bool false) := k1.cell 1; have qa2w1 : w1.cell? ⟨w.heap.size, 2, none⟩ = some (.bool true) := k1.cell 2; have qa3w1 : w1.cell? ⟨w.heap.size, 3, none⟩ = some (.int .i64 m) := k1.cell 3; have qb0w1 : w1.cell? ⟨w.heap.size + 1, 0, none⟩ = some (.int .i64 v) := k2.cell 0; have qb1w1 : w1.cell? ⟨w.heap.size + 1, 1, none⟩ = some (.bool true) := k2.cell 1; have qb2w1 : w1.cell? ⟨w.heap.size + 1, 2, none⟩ = some (.bool true) := k2.cell 2; have qb3w1 : w1.cell? ⟨w.heap.size + 1, 3, none⟩ = some (.int .i64 l) := k2.cell 3)
                    | (refine wpListG_load (by rfl) 23 (.tmp 3) rfl (w.heap.size + 1) rfl 23 (crC (v, true, true, l)) _ k2 Try.underlying23 rfl (cr_inf _) ?_)
                    | (refine (HRB.out _).mono ?_; clear HRB; rintro e w2 ⟨rfl, bb2⟩; have k11 := k1.below bb2 k1.lt; have k21 := k2.below bb2 k2.lt; have b2 := b1.trans (bb2.mono b1.size); have qa0w2 : w2.cell? ⟨w.heap.size, 0, none⟩ = some (.int .i64 u) := k11.cell 0; have qa1w2 : w2.cell? ⟨w.heap.size, 1, none⟩ = some (.bool false) := k11.cell 1; have qa2w2 : w2.cell? ⟨w.heap.size, 2, none⟩ = some (.bool true) := k11.cell 2; have qa3w2 : w2.cell? ⟨w.heap.size, 3, none⟩ = some (.int .i64 m) := k11.cell 3; have qb0w2 : w2.cell? ⟨w.heap.size + 1, 0, none⟩ = some (.int .i64 v) := k21.cell 0; have qb1w2 : w2.cell? ⟨w.heap.size + 1, 1, none⟩ = some (.bool true) := k21.cell 1; have qb2w2 : w2.cell? ⟨w.heap.size + 1, 2, none⟩ = some (.bool true) := k21.cell 2; have qb3w2 : w2.cell? ⟨w.heap.size + 1, 3, none⟩ = some (.int .i64 l) := k21.cell 3))
                  go_ret
                  exact ⟨by rw [HG.out]; rfl, b2⟩
                · skip
                  have HG := Lib.hid hg
                  clear hg
                  go_enter Try.func12, Try.ntmps12
                  go_wp2_with (first
                    | (refine wpListG_load (by rfl) 23 (.tmp 2) rfl w.heap.size rfl 23 (crC (u, true, true, m)) _ ka Try.underlying23 rfl (cr_inf _) ?_)
                    | (refine (HRA.out _).mono ?_; clear HRA; rintro e w1 ⟨rfl, bb⟩; obtain ⟨k1, k2, b1⟩ := enter w1 bb; have qa0w1 : w1.cell? ⟨w.heap.size, 0, none⟩ = some (.int .i64 u) := k1.cell 0; have qa1w1 : w1.cell? ⟨w.heap.size, 1, none⟩ = some (.bool true) := k1.cell 1; have qa2w1 : w1.cell? ⟨w.heap.size, 2, none⟩ = some (.bool true) := k1.cell 2; have qa3w1 : w1.cell? ⟨w.heap.size, 3, none⟩ = some (.int .i64 m) := k1.cell 3; have qb0w1 : w1.cell? ⟨w.heap.size + 1, 0, none⟩ = some (.int .i64 v) := k2.cell 0; have qb1w1 : w1.cell? ⟨w.heap.size + 1, 1, none⟩ = some (.bool true) := k2.cell 1; have qb2w1 : w1.cell? ⟨w.heap.size + 1, 2, none⟩ = some (.bool true) := k2.cell 2; have qb3w1 : w1.cell? ⟨w.heap.size + 1, 3, none⟩ = some (.int .i64 l) := k2.cell 3)
                    | (refine wpListG_load (by rfl) 23 (.tmp 3) rfl (w.heap.size + 1) rfl 23 (crC (v, true, true, l)) _ k2 Try.underlying23 rfl (cr_inf _) ?_)
                    | (refine (HRB.out _).mono ?_; clear HRB; rintro e w2 ⟨rfl, bb2⟩; have k11 := k1.below bb2 k1.lt; have k21 := k2.below bb2 k2.lt; have b2 := b1.trans (bb2.mono b1.size); have qa0w2 : w2.cell? ⟨w.heap.size, 0, none⟩ = some (.int .i64 u) := k11.cell 0; have qa1w2 : w2.cell? ⟨w.heap.size, 1, none⟩ = some (.bool true) := k11.cell 1; have qa2w2 : w2.cell? ⟨w.heap.size, 2, none⟩ = some (.bool true) := k11.cell 2; have qa3w2 : w2.cell? ⟨w.heap.size, 3, none⟩ = some (.int .i64 m) := k11.cell 3; have qb0w2 : w2.cell? ⟨w.heap.size + 1, 0, none⟩ = some (.int .i64 v) := k21.cell 0; have qb1w2 : w2.cell? ⟨w.heap.size + 1, 1, none⟩ = some (.bool true) := k21.cell 1; have qb2w2 : w2.cell? ⟨w.heap.size + 1, 2, none⟩ = some (.bool true) := k21.cell 2; have qb3w2 : w2.cell? ⟨w.heap.size + 1, 3, none⟩ = some (.int .i64 l) := k21.cell 3))
                  go_ret
                  exact ⟨by rw [HG.out]; rfl, b2⟩
          · skip
            rw [h1] at hg
            cases h2 : (m != l)
            · skip
              rw [h2] at hg
              cases h3 : (u != v)
              · skip
                rw [h3] at hg
                cases x
                · skip
                  have HG := Lib.hid hg
                  clear hg
                  go_enter Try.func12, Try.ntmps12
                  go_wp2_with (first
                    | (refine wpListG_load (by rfl) 23 (.tmp 2) rfl w.heap.size rfl 23 (crC (u, false, true, m)) _ ka Try.underlying23 rfl (cr_inf _) ?_)
                    | (refine (HRA.out _).mono ?_; clear HRA; rintro e w1 ⟨rfl, bb⟩; obtain ⟨k1, k2, b1⟩ := enter w1 bb; have qa0w1 : w1.cell? ⟨w.heap.size, 0, none⟩ = some (.int .i64 u) := k1.cell 0; have qa1w1 : w1.cell? ⟨w.heap.size, 1, none⟩ = some (.bool false) := k1.cell 1; have qa2w1 : w1.cell? ⟨w.heap.size, 2, none⟩ = some (.bool true) := k1.cell 2; have qa3w1 : w1.cell? ⟨w.heap.size, 3, none⟩ = some (.int .i64 m) := k1.cell 3; have qb0w1 : w1.cell? ⟨w.heap.size + 1, 0, none⟩ = some (.int .i64 v) := k2.cell 0; have qb1w1 : w1.cell? ⟨w.heap.size + 1, 1, none⟩ = some (.bool y) := k2.cell 1; have qb2w1 : w1.cell? ⟨w.heap.size + 1, 2, none⟩ = some (.bool true) := k2.cell 2; have qb3w1 : w1.cell? ⟨w.heap.size + 1, 3, none⟩ = some (.int .i64 l) := k2.cell 3)
                    | (refine wpListG_load (by rfl) 23 (.tmp 3) rfl (w.heap.size + 1) rfl 23 (crC (v, y, true, l)) _ k2 Try.underlying23 rfl (cr_inf _) ?_)
                    | (refine (HRB.out _).mono ?_; clear HRB; rintro e w2 ⟨rfl, bb2⟩; have k11 := k1.below bb2 k1.lt; have k21 := k2.below bb2 k2.lt; have b2 := b1.trans (bb2.mono b1.size); have qa0w2 : w2.cell? ⟨w.heap.size, 0, none⟩ = some (.int .i64 u) := k11.cell 0; have qa1w2 : w2.cell? ⟨w.heap.size, 1, none⟩ = some (.bool false) := k11.cell 1; have qa2w2 : w2.cell? ⟨w.heap.size, 2, none⟩ = some (.bool true) := k11.cell 2; have qa3w2 : w2.cell? ⟨w.heap.size, 3, none⟩ = some (.int .i64 m) := k11.cell 3; have qb0w2 : w2.cell? ⟨w.heap.size + 1, 0, none⟩ = some (.int .i64 v) := k21.cell 0; have qb1w2 : w2.cell? ⟨w.heap.size + 1, 1, none⟩ = some (.bool y) := k21.cell 1; have qb2w2 : w2.cell? ⟨w.heap.size + 1, 2, none⟩ = some (.bool true) := k21.cell 2; have qb3w2 : w2.cell? ⟨w.heap.size + 1, 3, none⟩ = some (.int .i64 l) := k21.cell 3))
                  go_ret
                  exact ⟨by rw [HG.out]; rfl, b2⟩
                · skip
                  cases y
                  · skip
                    have HG := Lib.hid hg
                    clear hg
                    go_enter Try.func12, Try.ntmps12
                    go_wp2_with (first
                      | (refine wpListG_load (by rfl) 23 (.tmp 2) rfl w.heap.size rfl 23 (crC (u, true, true, m)) _ ka Try.underlying23 rfl (cr_inf _) ?_)
                      | (refine (HRA.out _).mono ?_; clear HRA; rintro e w1 ⟨rfl, bb⟩; obtain ⟨k1, k2, b1⟩ := enter w1 bb; have qa0w1 : w1.cell? ⟨w.heap.size, 0, none⟩ = some (.int .i64 u) := k1.cell 0; have qa1w1 : w1.cell? ⟨w.heap.size, 1, none⟩ = some (.bool true) := k1.cell 1; have qa2w1 : w1.cell? ⟨w.heap.size, 2, none⟩ = some (.bool true) := k1.cell 2; have qa3w1 : w1.cell? ⟨w.heap.size, 3, none⟩ = some (.int .i64 m) := k1.cell 3; have qb0w1 : w1.cell? ⟨w.heap.size + 1, 0, none⟩ = some (.int .i64 v) := k2.cell 0; have qb1w1 : w1.cell? ⟨w.heap.size + 1, 1, none⟩ = some (.bool false) := k2.cell 1; have qb2w1 : w1.cell? ⟨w.heap.size + 1, 2, none⟩ = some (.bool true) := k2.cell 2; have qb3w1 : w1.cell? ⟨w.heap.size + 1, 3, none⟩ = some (.int .i64 l) := k2.cell 3)
                      | (refine wpListG_load (by rfl) 23 (.tmp 3) rfl (w.heap.size + 1) rfl 23 (crC (v, false, true, l)) _ k2 Try.underlying23 rfl (cr_inf _) ?_)
                      | (refine (HRB.out _).mono ?_; clear HRB; rintro e w2 ⟨rfl, bb2⟩; have k11 := k1.below bb2 k1.lt; have k21 := k2.below bb2 k2.lt; have b2 := b1.trans (bb2.mono b1.size); have qa0w2 : w2.cell? ⟨w.heap.size, 0, none⟩ = some (.int .i64 u) := k11.cell 0; have qa1w2 : w2.cell? ⟨w.heap.size, 1, none⟩ = some (.bool true) := k11.cell 1; have qa2w2 : w2.cell? ⟨w.heap.size, 2, none⟩ = some (.bool true) := k11.cell 2; have qa3w2 : w2.cell? ⟨w.heap.size, 3, none⟩ = some (.int .i64 m) := k11.cell 3; have qb0w2 : w2.cell? ⟨w.heap.size + 1, 0, none⟩ = some (.int .i64 v) := k21.cell 0; have qb1w2 : w2.cell? ⟨w.heap.size + 1, 1, none⟩ = some (.bool false) := k21.cell 1; have qb2w2 : w2.cell? ⟨w.heap.size + 1, 2, none⟩ = some (.bool true) := k21.cell 2; have qb3w2 : w2.cell? ⟨w.heap.size + 1, 3, none⟩ = some (.int .i64 l) := k21.cell 3))
                    go_ret
                    exact ⟨by rw [HG.out]; rfl, b2⟩
                  · skip
                    have HG := Lib.hid hg
                    clear hg
                    go_enter Try.func12, Try.ntmps12
                    go_wp2_with (first
                      | (refine wpListG_load (by rfl) 23 (.tmp 2) rfl w.heap.size rfl 23 (crC (u, true, true, m)) _ ka Try.underlying23 rfl (cr_inf _) ?_)
                      | (refine (HRA.out _).mono ?_; clear HRA; rintro e w1 ⟨rfl, bb⟩; obtain ⟨k1, k2, b1⟩ := enter w1 bb; have qa0w1 : w1.cell? ⟨w.heap.size, 0, none⟩ = some (.int .i64 u) := k1.cell 0; have qa1w1 : w1.cell? ⟨w.heap.size, 1, none⟩ = some (.bool true) := k1.cell 1; have qa2w1 : w1.cell? ⟨w.heap.size, 2, none⟩ = some (.bool true) := k1.cell 2; have qa3w1 : w1.cell? ⟨w.heap.size, 3, none⟩ = some (.int .i64 m) := k1.cell 3; have qb0w1 : w1.cell? ⟨w.heap.size + 1, 0, none⟩ = some (.int .i64 v) := k2.cell 0; have qb1w1 : w1.cell? ⟨w.heap.size + 1, 1, none⟩ = some (.bool true) := k2.cell 1; have qb2w1 : w1.cell? ⟨w.heap.size + 1, 2, none⟩ = some (.bool true) := k2.cell 2; have qb3w1 : w1.cell? ⟨w.heap.size + 1, 3, none⟩ = some (.int .i64 l) := k2.cell 3)
                      | (refine wpListG_load (by rfl) 23 (.tmp 3) rfl (w.heap.size + 1) rfl 23 (crC (v, true, true, l)) _ k2 Try.underlying23 rfl (cr_inf _) ?_)
                      | (refine (HRB.out _).mono ?_; clear HRB; rintro e w2 ⟨rfl, bb2⟩; have k11 := k1.below bb2 k1.lt; have k21 := k2.below bb2 k2.lt; have b2 := b1.trans (bb2.mono b1.size); have qa0w2 : w2.cell? ⟨w.heap.size, 0, none⟩ = some (.int .i64 u) := k11.cell 0; have qa1w2 : w2.cell? ⟨w.heap.size, 1, none⟩ = some (.bool true) := k11.cell 1; have qa2w2 : w2.cell? ⟨w.heap.size, 2, none⟩ = some (.bool true) := k11.cell 2; have qa3w2 : w2.cell? ⟨w.heap.size, 3, none⟩ = some (.int .i64 m) := k11.cell 3; have qb0w2 : w2.cell? ⟨w.heap.size + 1, 0, none⟩ = some (.int .i64 v) := k21.cell 0; have qb1w2 : w2.cell? ⟨w.heap.size + 1, 1, none⟩ = some (.bool true) := k21.cell 1; have qb2w2 : w2.cell? ⟨w.heap.size + 1, 2, none⟩ = some (.bool true) := k21.cell 2; have qb3w2 : w2.cell? ⟨w.heap.size + 1, 3, none⟩ = some (.int .i64 l) := k21.cell 3))
                    go_ret
                    exact ⟨by rw [HG.out]; rfl, b2⟩
              · skip
                rw [h3] at hg
                cases y
                · skip
                  have HG := Lib.hid hg
                  clear hg
                  go_enter Try.func12, Try.ntmps12
                  go_wp2_with (first
                    | (refine wpListG_load (by rfl) 23 (.tmp 2) rfl w.heap.size rfl 23 (crC (u, x, true, m)) _ ka Try.underlying23 rfl (cr_inf _) ?_)
                    | (refine (HRA.out _).mono ?_; clear HRA; rintro e w1 ⟨rfl, bb⟩; obtain ⟨k1, k2, b1⟩ := enter w1 bb; have qa0w1 : w1.cell? ⟨w.heap.size, 0, none⟩ = some (.int .i64 u) := k1.cell 0; have qa1w1 : w1.cell? ⟨w.heap.size, 1, none⟩ = some (.bool x) := k1.cell 1; have qa2w1 : w1.cell? ⟨w.heap.size, 2, none⟩ = some (.bool true) := k1.cell 2; have qa3w1 : w1.cell? ⟨w.heap.size, 3, none⟩ = some (.int .i64 m) := k1.cell 3; have qb0w1 : w1.cell? ⟨w.heap.size + 1, 0, none⟩ = some (.int .i64 v) := k2.cell 0; have qb1w1 : w1.cell? ⟨w.heap.size + 1, 1, none⟩ = some (.bool false) := k2.cell 1; have qb2w1 : w1.cell? ⟨w.heap.size + 1, 2, none⟩ = some (.bool true) := k2.cell 2; have qb3w1 : w1.cell? ⟨w.heap.size + 1, 3, none⟩ = some (.int .i64 l) := k2.cell 3)
                    | (refine wpListG_load (by rfl) 23 (.tmp 3) rfl (w.heap.size + 1) rfl 23 (crC (v, false, true, l)) _ k2 Try.underlying23 rfl (cr_inf _) ?_)
                    | (refine (HRB.out _).mono ?_; clear HRB; rintro e w2 ⟨rfl, bb2⟩; have k11 := k1.below bb2 k1.lt; have k21 := k2.below bb2 k2.lt; have b2 := b1.trans (bb2.mono b1.size); have qa0w2 : w2.cell? ⟨w.heap.size, 0, none⟩ = some (.int .i64 u) := k11.cell 0; have qa1w2 : w2.cell? ⟨w.heap.size, 1, none⟩ = some (.bool x) := k11.cell 1; have qa2w2 : w2.cell? ⟨w.heap.size, 2, none⟩ = some (.bool true) := k11.cell 2; have qa3w2 : w2.cell? ⟨w.heap.size, 3, none⟩ = some (.int .i64 m) := k11.cell 3; have qb0w2 : w2.cell? ⟨w.heap.size + 1, 0, none⟩ = some (.int .i64 v) := k21.cell 0; have qb1w2 : w2.cell? ⟨w.heap.size + 1, 1, none⟩ = some (.bool false) := k21.cell 1; have qb2w2 : w2.cell? ⟨w.heap.size + 1, 2, none⟩ = some (.bool true) := k21.cell 2; have qb3w2 : w2.cell? ⟨w.heap.size + 1, 3, none⟩ = some (.int .i64 l) := k21.cell 3))
                  go_ret
                  exact ⟨by rw [HG.out]; rfl, b2⟩
                · skip
                  cases x
                  · skip
                    have HG := Lib.hid hg
                    clear hg
                    go_enter Try.func12, Try.ntmps12
                    go_wp2_with (first
                      | (refine wpListG_load (by rfl) 23 (.tmp 2) rfl w.heap.size rfl 23 (crC (u, false, true, m)) _ ka Try.underlying23 rfl (cr_inf _) ?_)
                      | (refine (HRA.out _).mono ?_; clear HRA; rintro e w1 ⟨rfl, bb⟩; obtain ⟨k1, k2, b1⟩ := enter w1 bb; have qa0w1 : w1.cell? ⟨w.heap.size, 0, none⟩ = some (.int .i64 u) := k1.cell 0; have qa1w1 : w1.cell? ⟨w.heap.size, 1, none⟩ = some (.bool false) := k1.cell 1; have qa2w1 : w1.cell? ⟨w.heap.size, 2, none⟩ = some (.bool true) := k1.cell 2; have qa3w1 : w1.cell? ⟨w.heap.size, 3, none⟩ = some (.int .i64 m) := k1.cell 3; have qb0w1 : w1.cell? ⟨w.heap.size + 1, 0, none⟩ = some (.int .i64 v) := k2.cell 0; have qb1w1 : w1.cell? ⟨w.heap.size + 1, 1, none⟩ = some (.bool true) := k2.cell 1; have qb2w1 : w1.cell? ⟨w.heap.size + 1, 2, none⟩ = some (.bool true) := k2.cell 2; have qb3w1 : w1.cell? ⟨w.heap.size + 1, 3, none⟩ = some (.int .i64 l) := k2.cell 3)
                      | (refine wpListG_load (by rfl) 23 (.tmp 3) rfl (w.heap.size + 1) rfl 23 (crC (v, true, true, l)) _ k2 Try.underlying23 rfl (cr_inf _) ?_)
                      | (refine (HRB.out _).mono ?_; clear HRB; rintro e w2 ⟨rfl, bb2⟩; have k11 := k1.below bb2 k1.lt; have k21 := k2.below bb2 k2.lt; have b2 := b1.trans (bb2.mono b1.size); have qa0w2 : w2.cell? ⟨w.heap.size, 0, none⟩ = some (.int .i64 u) := k11.cell 0; have qa1w2 : w2.cell? ⟨w.heap.size, 1, none⟩ = some (.bool false) := k11.cell 1; have qa2w2 : w2.cell? ⟨w.heap.size, 2, none⟩ = some (.bool true) := k11.cell 2; have qa3w2 : w2.cell? ⟨w.heap.size, 3, none⟩ = some (.int .i64 m) := k11.cell 3; have qb0w2 : w2.cell? ⟨w.heap.size + 1, 0, none⟩ = some (.int .i64 v) := k21.cell 0; have qb1w2 : w2.cell? ⟨w.heap.size + 1, 1, none⟩ = some (.bool true) := k21.cell 1; have qb2w2 : w2.cell? ⟨w.heap.size + 1, 2, none⟩ = some (.bool true) := k21.cell 2; have qb3w2 : w2.cell? ⟨w.heap.size + 1, 3, none⟩ = some (.int .i64 l) := k21.cell 3))
                    go_ret
                    exact ⟨by rw [HG.out]; rfl, b2⟩
                  · skip
                    have HG := Lib.hid hg
                    clear hg
                    go_enter Try.func12, Try.ntmps12
                    go_wp2_with (first
                      | (refine wpListG_load (by rfl) 23 (.tmp 2) rfl w.heap.size rfl 23 (crC (u, true, true, m)) _ ka Try.underlying23 rfl (cr_inf _) ?_)
                      | (refine (HRA.out _).mono ?_; clear HRA; rintro e w1 ⟨rfl, bb⟩; obtain ⟨k1, k2, b1⟩ := enter w1 bb; have qa0w1 : w1.cell? ⟨w.heap.size, 0, none⟩ = some (.int .i64 u) := k1.cell 0; have qa1w1 : w1.cell? ⟨w.heap.size, 1, none⟩ = some (.bool true) := k1.cell 1; have qa2w1 : w1.cell? ⟨w.heap.size, 2, none⟩ = some (.bool true) := k1.cell 2; have qa3w1 : w1.cell? ⟨w.heap.size, 3, none⟩ = some (.int .i64 m) := k1.cell 3; have qb0w1 : w1.cell? ⟨w.heap.size + 1, 0, none⟩ = some (.int .i64 v) := k2.cell 0; have qb1w1 : w1.cell? ⟨w.heap.size + 1, 1, none⟩ = some (.bool true) := k2.cell 1; have qb2w1 : w1.cell? ⟨w.heap.size + 1, 2, none⟩ = some (.bool true) := k2.cell 2; have qb3w1 : w1.cell? ⟨w.heap.size + 1, 3, none⟩ = some (.int .i64 l) := k2.cell 3)
                      | (refine wpListG_load (by rfl) 23 (.tmp 3) rfl (w.heap.size + 1) rfl 23 (crC (v, true, true, l)) _ k2 Try.underlying23 rfl (cr_inf _) ?_)
                      | (refine (HRB.out _).mono ?_; clear HRB; rintro e w2 ⟨rfl, bb2⟩; have k11 := k1.below bb2 k1.lt; have k21 := k2.below bb2 k2.lt; have b2 := b1.trans (bb2.mono b1.size); have qa0w2 : w2.cell? ⟨w.heap.size, 0, none⟩ = some (.int .i64 u) := k11.cell 0; have qa1w2 : w2.cell? ⟨w.heap.size, 1, none⟩ = some (.bool true) := k11.cell 1; have qa2w2 : w2.cell? ⟨w.heap.size, 2, none⟩ = some (.bool true) := k11.cell 2; have qa3w2 : w2.cell? ⟨w.heap.size, 3, none⟩ = some (.int .i64 m) := k11.cell 3; have qb0w2 : w2.cell? ⟨w.heap.size + 1, 0, none⟩ = some (.int .i64 v) := k21.cell 0; have qb1w2 : w2.cell? ⟨w.heap.size + 1, 1, none⟩ = some (.bool true) := k21.cell 1; have qb2w2 : w2.cell? ⟨w.heap.size + 1, 2, none⟩ = some (.bool true) := k21.cell 2; have qb3w2 : w2.cell? ⟨w.heap.size + 1, 3, none⟩ = some (.int .i64 l) := k21.cell 3))
                    go_ret
                    exact ⟨by rw [HG.out]; rfl, b2⟩
            · skip
              rw [h2] at hg
              have HG := Lib.hid hg
              clear hg
              go_enter Try.func12, Try.ntmps12
              go_wp2_with (first
                | (refine wpListG_load (by rfl) 23 (.tmp 2) rfl w.heap.size rfl 23 (crC (u, x, true, m)) _ ka Try.underlying23 rfl (cr_inf _) ?_)
                | (refine (HRA.out _).mono ?_; clear HRA; rintro e w1 ⟨rfl, bb⟩; obtain ⟨k1, k2, b1⟩ := enter w1 bb; have qa0w1 : w1.cell? ⟨w.heap.size, 0, none⟩ = some (.int .i64 u) := k1.cell 0; have qa1w1 : w1.cell? ⟨w.heap.size, 1, none⟩ = some (.bool x) := k1.cell 1; have qa2w1 : w1.cell? ⟨w.heap.size, 2, none⟩ = some (.bool true) := k1.cell 2; have qa3w1 : w1.cell? ⟨w.heap.size, 3, none⟩ = some (.int .i64 m) := k1.cell 3; have qb0w1 : w1.cell? ⟨w.heap.size + 1, 0, none⟩ = some (.int .i64 v) := k2.cell 0; have qb1w1 : w1.cell? ⟨w.heap.size + 1, 1, none⟩ = some (.bool y) := k2.cell 1; have qb2w1 : w1.cell? ⟨w.heap.size + 1, 2, none⟩ = some (.bool true) := k2.cell 2; have qb3w1 : w1.cell? ⟨w.heap.size + 1, 3, none⟩ = some (.int .i64 l) := k2.cell 3)
                | (refine wpListG_load (by rfl) 23 (.tmp 3) rfl (w.heap.size + 1) rfl 23 (crC (v, y, true, l)) _ k2 Try.underlying23 rfl (cr_inf _) ?_)
                | (refine (HRB.out _).mono ?_; clear HRB; rintro e w2 ⟨rfl, bb2⟩; have k11 := k1.below bb2 k1.lt; have k21 := k2.below bb2 k2.lt; have b2 := b1.trans (bb2.mono b1.size); have qa0w2 : w2.cell? ⟨w.heap.size, 0, none⟩ = some (.int .i64 u) := k11.cell 0; have qa1w2 : w2.cell? ⟨w.heap.size, 1, none⟩ = some (.bool x) := k11.cell 1; have qa2w2 : w2.cell? ⟨w.heap.size, 2, none⟩ = some (.bool true) := k11.cell 2; have qa3w2 : w2.cell? ⟨w.heap.size, 3, none⟩ = some (.int .i64 m) := k11.cell 3; have qb0w2 : w2.cell? ⟨w.heap.size + 1, 0, none⟩ = some (.int .i64 v) := k21.cell 0; have qb1w2 : w2.cell? ⟨w.heap.size + 1, 1, none⟩ = some (.bool y) := k21.cell 1; have qb2w2 : w2.cell? ⟨w.heap.size + 1, 2, none⟩ = some (.bool true) := k21.cell 2; have qb3w2 : w2.cell? ⟨w.heap.size + 1, 3, none⟩ = some (.int .i64 l) := k21.cell 3))
              go_ret
              exact ⟨by rw [HG.out]; rfl, b2⟩
theorem newC {V V' : World} {g : Nat} (hg : g = V.heap.size) {o : Obj} (n : But g (V.alloc o) V') : Below V.heap.size V V' := ((Below.refl _ V).alloc (Nat.le_refl _) o).trans (n.below _ (by omega) (by simp))
set_option maxRecDepth 100000 in
set_option maxHeartbeats 2000000 in
theorem wakes_cr (w : World) : Calls Try.prog 8 #[] w fun e w' => e = .returned (.bool true) ∧ Below w.heap.size w w' := by
  have h1 : chgC (0, true, false, 0) (drC (0, true, false, 0) 5) = ((5, false, false, 0), 0) := by decide
  have h2 : chgC (5, false, false, 0) (exC (5, false, false, 0) 0 true) = ((0, true, false, 0), 0) := by decide
  have h3 : chgC (5, false, false, 0) (fiC (5, false, false, 0)) = (cr0, 22) := by decide
  have F1 := first_cr w
  have D1 := fun V => drop_cr (0, true, false, 0) 5 V
  have E1 := fun V => exec_cr (5, false, false, 0) 0 true V
  have G1 := fun V => filter_cr (5, false, false, 0) V
  simp only [h1, h2, h3] at D1 E1 G1
  have HD := Lib.hid D1
  have HE := Lib.hid E1
  have HF := Lib.hid G1
  clear h1 h2 h3 D1 E1 G1
  unfold crV at *
  go_enter Try.func8, Try.ntmps8
  go_wp2_with (first
    | (refine F1.mono ?_; clear F1; rintro e w1 ⟨rfl, b1⟩)
    | (refine (HD.out _).mono ?_; clear HD; rintro e w2 ⟨rfl, b2⟩; have B2 := b1.trans (b2.mono b1.size))
    | (refine wpList_store_blk rfl 23 (.tmp 1) (.tmp 10) rfl w2.heap.size (crC cr0) (crC (5, false, false, 0)) 23 rfl rfl (Blk.new _ _ _) rfl (cr_inf _) (cr_one _) ?_; intro w3 k3 n3; have B3 := B2.trans ((newC rfl n3).mono B2.size))
    | (refine wpListG_load (by rfl) 23 (.tmp 1) rfl w2.heap.size rfl 23 (crC (5, false, false, 0)) _ k3 Try.underlying23 rfl (cr_inf _) ?_)
    | (refine (HE.out _).mono ?_; clear HE; rintro e w4 ⟨rfl, b4⟩; have B4 := B3.trans (b4.mono B3.size); have k4 := k3.below b4 k3.lt; clear k3)
    | (refine wpList_store_blk rfl 23 (.tmp 3) (.tmp 16) rfl w4.heap.size (crC cr0) (crC (0, true, false, 0)) 23 rfl rfl (Blk.new _ _ _) rfl (cr_inf _) (cr_one _) ?_; intro w5 k5 n5; have B5 := B4.trans ((newC rfl n5).mono B4.size); have k6 := k4.below (newC rfl n5) k4.lt; clear k4)
    | (refine wpListG_load (by rfl) 23 (.tmp 1) rfl w2.heap.size rfl 23 (crC (5, false, false, 0)) _ k6 Try.underlying23 rfl (cr_inf _) ?_)
    | (refine (HF.out _).mono ?_; clear HF; rintro e w6 ⟨rfl, b6⟩; have B6 := B5.trans (b6.mono B5.size); have k7 := k6.below b6 k6.lt; have k8 := k5.below b6 k5.lt; clear k6 k5)
    | (refine wpList_store_blk rfl 23 (.tmp 5) (.tmp 21) rfl w6.heap.size (crC cr0) (crC cr0) 23 rfl rfl (Blk.new _ _ _) rfl (cr_inf _) (cr_one _) ?_; intro w7 k9 n7; have B7 := B6.trans ((newC rfl n7).mono B6.size); have k71 := k7.below (newC rfl n7) k7.lt; have k81 := k8.below (newC rfl n7) k8.lt; clear k7 k8)
    | (refine wpListG_load (by rfl) 23 (.tmp 1) rfl w2.heap.size rfl 23 (crC (5, false, false, 0)) _ k71 Try.underlying23 rfl (cr_inf _) ?_)
    | (refine wpListG_load (by rfl) 23 (.tmp 3) rfl w4.heap.size rfl 23 (crC (0, true, false, 0)) _ k81 Try.underlying23 rfl (cr_inf _) ?_)
    | (refine wpListG_eql_cr (by rfl) (.tmp 34) (.tmp 35) rfl (5, false, false, 0) (5, false, false, 0) rfl rfl true (by decide) ?_)
    | (refine wpListG_eql_cr (by rfl) (.tmp 39) (.tmp 40) rfl (0, true, false, 0) (0, true, false, 0) rfl rfl true (by decide) ?_))
  go_ret
  exact ⟨rfl, B7⟩
end Go.Proofs.Yteoeflainejaaaa
