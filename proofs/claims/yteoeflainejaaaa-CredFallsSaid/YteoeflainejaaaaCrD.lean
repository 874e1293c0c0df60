/-
  The law's do: what comes of credentials by a deed is below them.
-/
import Derived.Test.YteoeflainejaaaaCrS
namespace Go.Proofs.Yteoeflainejaaaa
open Go.RowKit Go.Shelf
set_option linter.unusedVariables false
set_option linter.unusedSimpArgs false

/-- A deed: Kind, Uid, Owner, SetUid. -/
abbrev De := Int × Int × Int × Bool
def deC (d : De) : Array Value := #[.int .i64 d.1, .int .i64 d.2.1, .int .i64 d.2.2.1, .bool d.2.2.2]
def deV (d : De) : Value := .agg (deC d)
theorem de_inf (d : De) : (Try.prog.info? 40).map (·.size) = some (deC d).size := by
  show _ = some 4
  kernel_rfl
theorem de_infL (d : De) : (Try.prog.info? 40).map (·.size) = some (deC d).toList.length := by
  show _ = some 4
  kernel_rfl
theorem de_one (d : De) : (deC d).all (·.oneCell') = true := by simp [deC, Value.oneCell']
theorem chg_below {c : Cr} (h : rightC c = true) {r : Cr × Int} (hr : r.2 = 0 → beC r.1 c = true) : (chgC c r).2 = 0 → beC (chgC c r).1 c = true := by
  unfold chgC
  rw [if_pos h]
  by_cases h0 : r.2 = 0
  · rw [if_pos h0]; exact fun _ => hr h0
  · rw [if_neg h0]; exact fun e => absurd e h0
theorem rem5 (k : Int) : (wrap64 (k.tmod 5 + 5)).tmod 5 = 0 ∨ (wrap64 (k.tmod 5 + 5)).tmod 5 = 1 ∨ (wrap64 (k.tmod 5 + 5)).tmod 5 = 2 ∨ (wrap64 (k.tmod 5 + 5)).tmod 5 = 3 ∨ (wrap64 (k.tmod 5 + 5)).tmod 5 = 4 := by
  have h1 : -5 < k.tmod 5 := Int.lt_tmod_of_pos k (by omega)
  have h2 : k.tmod 5 < 5 := Int.tmod_lt_of_pos k (by omega)
  have e : wrap64 (k.tmod 5 + 5) = k.tmod 5 + 5 := by unfold wrap64; omega
  rw [e]
  have h3 : 0 ≤ (k.tmod 5 + 5).tmod 5 := Int.tmod_nonneg _ (by omega)
  have h4 : (k.tmod 5 + 5).tmod 5 < 5 := Int.tmod_lt_of_pos _ (by omega)
  omega
theorem range2 {w : World} {g : Nat} {k u o : Int} {s : Bool} (h : Blk w g (deC (k, u, o, s)) 40) : w.rangeAt g 2 [.int .i64 o, .bool s] := fun j v hv => by
  rw [h.cell]
  rcases j with _ | _ | j
  · exact hv
  · exact hv
  · simp at hv
def DoP (c : Cr) (w : World) (e : Ending) (w' : World) : Prop := ∃ c', e = .returned (crV c') ∧ beC c' c = true ∧ Below w.heap.size w w'
set_option maxRecDepth 100000 in
set_option maxHeartbeats 4000000 in
theorem do_cr (c : Cr) (d : De) (w : World) (hr : rightC c = true) : Calls Try.prog 24 #[crV c, deV d] w (DoP c w) := by
  obtain ⟨k, u, o, s⟩ := d
  have ka := ((Blk.new w (crC c) 23).alloc (.cells (deC (k, u, o, s)) 40)).alloc (.cells (crC cr0) 23)
  have kd := (Blk.new_ (w.alloc (.cells (crC c) 23)) (deC (k, u, o, s)) 40 (n := w.heap.size + 1) (by simp)).alloc (.cells (crC cr0) 23)
  have kr := Blk.new_ ((w.alloc (.cells (crC c) 23)).alloc (.cells (deC (k, u, o, s)) 40)) (crC cr0) 23 (n := w.heap.size + 1 + 1) (by simp)
  have B0 := (((Below.refl w.heap.size w).alloc (Nat.le_refl _) (.cells (crC c) 23)).alloc (by simp) (.cells (deC (k, u, o, s)) 40)).alloc (by simp; omega) (.cells (crC cr0) 23)
  have HE := Lib.hid (fun V => exec_cr c o s V)
  have HD := Lib.hid (fun V => drop_cr c u V)
  have HN := Lib.hid (fun V => nonew_cr c V)
  have HS := Lib.hid (fun V => strict_cr c V)
  have HF := Lib.hid (fun V => filter_cr c V)
  have be := chg_below hr (ex_below hr o s)
  have bd := chg_below hr (dr_below hr u)
  have bn := chg_below hr (r := nnC c) (fun _ => nn_below hr)
  have bs := chg_below hr (st_below hr)
  have bf := chg_below hr (fi_below hr)
  generalize chgC c (exC c o s) = re at HE be
  generalize chgC c (drC c u) = rd at HD bd
  generalize chgC c (nnC c) = rn at HN bn
  generalize chgC c (stC c) = rs at HS bs
  generalize chgC c (fiC c) = rf at HF bf
  obtain ⟨e1, e2⟩ := re
  obtain ⟨d1, d2⟩ := rd
  obtain ⟨n1, n2⟩ := rn
  obtain ⟨s1, s2⟩ := rs
  obtain ⟨f1, f2⟩ := rf
  have hid_ : ∀ {p : Prop}, p → Hid p := fun h => Lib.hid h
  have HBE := hid_ be
  have HBD := hid_ bd
  have HBN := hid_ bn
  have HBS := hid_ bs
  have HBF := hid_ bf
  have HR := hid_ (be_refl hr)
  have hk5 := rem5 k
  clear be bd bn bs bf hid_ hr
  simp only at HE HD HN HS HF HBE HBD HBN HBS HBF
  unfold crV deV at *
  rcases hk5 with hk5 | hk5 | hk5 | hk5 | hk5
  · by_cases hz : e2 = 0
    · subst hz
      go_enter Try.func24, Try.ntmps24
      go_wp2_with (first
        | (refine wpListG_load (by rfl) 23 (.tmp 2) rfl w.heap.size rfl 23 (crC c) _ ka Try.underlying23 rfl (cr_inf _) ?_)
        | (refine wpList_store_blk rfl 23 (.tmp 5) (.tmp 7) rfl (w.heap.size + 1 + 1 + 1) (crC cr0) (crC c) 23 rfl rfl (Blk.new_ _ _ _ (by simp)) rfl (cr_inf _) (cr_one _) ?_; intro v2 k2 g2; have hs0 : (((w.alloc (.cells (crC c) 23)).alloc (.cells (deC (k, u, o, s)) 40)).alloc (.cells (crC cr0) 23)).heap.size = w.heap.size + 1 + 1 + 1 := (by simp); have bb := newC hs0.symm g2; have hB2 := B0.trans (bb.mono B0.size); have ka2 := ka.below bb ka.lt; have kd2 := kd.below bb kd.lt; have kr2 := kr.below bb kr.lt; clear ka kd kr bb hs0 g2; have q0 : v2.cell? ⟨w.heap.size + 1, 0, none⟩ = some (.int .i64 k) := kd2.cell 0; have q1 : v2.cell? ⟨w.heap.size + 1, 1, none⟩ = some (.int .i64 u) := kd2.cell 1)
        | (refine wpListG_load (by rfl) 23 (.tmp 2) rfl w.heap.size rfl 23 (crC c) _ ka2 Try.underlying23 rfl (cr_inf _) ?_)
        | (refine wpList_load_mid rfl 31 (.tmp 17) rfl (w.heap.size + 1) 2 rfl [.int .i64 o, .bool s] _ (range2 kd2) Try.underlying31 rfl (by kernel_rfl) ?_)
        | (refine (HE.out _).mono ?_; clear HE; rintro e v3 ⟨rfl, g3⟩; have hB3 := hB2.trans (g3.mono hB2.size); have ka3 := ka2.below g3 ka2.lt; have kr3 := kr2.below g3 kr2.lt; have k3 := k2.below g3 k2.lt; clear ka2 kr2 k2 kd2)
        | (refine wpList_store_blk rfl 23 (.tmp 5) (.tmp 20) rfl (w.heap.size + 1 + 1 + 1) (crC c) (crC e1) 23 rfl rfl k3 rfl (cr_inf _) (cr_one _) ?_; intro v4 k4 g4; have hB4 := hB3.trans (g4.below _ (by omega) hB3.size); have ka4 := g4.blk7 ka3 (by omega); have kr4 := g4.blk7 kr3 (by omega); clear ka3 kr3 k3)
        | (refine wpListG_load (by rfl) 23 (.tmp 5) rfl (w.heap.size + 1 + 1 + 1) rfl 23 (crC e1) _ k4 Try.underlying23 rfl (cr_inf _) ?_)
        | (refine wpList_store_blk rfl 23 (.tmp 4) (.tmp 55) rfl (w.heap.size + 1 + 1) (crC cr0) (crC e1) 23 rfl rfl kr4 rfl (cr_inf _) (cr_one _) ?_; intro v5 k5 g5))
      refine bodyPost_ret (results_cell_row rfl _ _ (w.heap.size + 1 + 1) 23 (crC e1) (0, 0) _ rfl k5.blk Try.underlying23 rfl (cr_inf _)) rfl ?_
      exact ⟨e1, rfl, by simpa using HBE.out, hB4.trans (g5.below _ (by omega) hB4.size)⟩
    · have hne : (e2 != 0) = true := by simpa using hz
      clear hz
      go_enter Try.func24, Try.ntmps24
      go_wp2_with (first
        | (refine wpListG_load (by rfl) 23 (.tmp 2) rfl w.heap.size rfl 23 (crC c) _ ka Try.underlying23 rfl (cr_inf _) ?_)
        | (refine wpList_store_blk rfl 23 (.tmp 5) (.tmp 7) rfl (w.heap.size + 1 + 1 + 1) (crC cr0) (crC c) 23 rfl rfl (Blk.new_ _ _ _ (by simp)) rfl (cr_inf _) (cr_one _) ?_; intro v2 k2 g2; have hs0 : (((w.alloc (.cells (crC c) 23)).alloc (.cells (deC (k, u, o, s)) 40)).alloc (.cells (crC cr0) 23)).heap.size = w.heap.size + 1 + 1 + 1 := (by simp); have bb := newC hs0.symm g2; have hB2 := B0.trans (bb.mono B0.size); have ka2 := ka.below bb ka.lt; have kd2 := kd.below bb kd.lt; have kr2 := kr.below bb kr.lt; clear ka kd kr bb hs0 g2; have q0 : v2.cell? ⟨w.heap.size + 1, 0, none⟩ = some (.int .i64 k) := kd2.cell 0; have q1 : v2.cell? ⟨w.heap.size + 1, 1, none⟩ = some (.int .i64 u) := kd2.cell 1)
        | (refine wpListG_load (by rfl) 23 (.tmp 2) rfl w.heap.size rfl 23 (crC c) _ ka2 Try.underlying23 rfl (cr_inf _) ?_)
        | (refine wpList_load_mid rfl 31 (.tmp 17) rfl (w.heap.size + 1) 2 rfl [.int .i64 o, .bool s] _ (range2 kd2) Try.underlying31 rfl (by kernel_rfl) ?_)
        | (refine (HE.out _).mono ?_; clear HE; rintro e v3 ⟨rfl, g3⟩; have hB3 := hB2.trans (g3.mono hB2.size); have ka3 := ka2.below g3 ka2.lt; have kr3 := kr2.below g3 kr2.lt; have k3 := k2.below g3 k2.lt; clear ka2 kr2 k2 kd2)
        | (refine wpList_store_blk rfl 23 (.tmp 5) (.tmp 20) rfl (w.heap.size + 1 + 1 + 1) (crC c) (crC e1) 23 rfl rfl k3 rfl (cr_inf _) (cr_one _) ?_; intro v4 k4 g4; have hB4 := hB3.trans (g4.below _ (by omega) hB3.size); have ka4 := g4.blk7 ka3 (by omega); have kr4 := g4.blk7 kr3 (by omega); clear ka3 kr3 k3)
        | (refine wpListG_load (by rfl) 23 (.tmp 2) rfl w.heap.size rfl 23 (crC c) _ ka4 Try.underlying23 rfl (cr_inf _) ?_)
        | (refine wpList_store_blk rfl 23 (.tmp 4) (.tmp 54) rfl (w.heap.size + 1 + 1) (crC cr0) (crC c) 23 rfl rfl kr4 rfl (cr_inf _) (cr_one _) ?_; intro v5 k5 g5))
      refine bodyPost_ret (results_cell_row rfl _ _ (w.heap.size + 1 + 1) 23 (crC c) (0, 0) _ rfl k5.blk Try.underlying23 rfl (cr_inf _)) rfl ?_
      exact ⟨c, rfl, HR.out, hB4.trans (g5.below _ (by omega) hB4.size)⟩
  · by_cases hz : n2 = 0
    · subst hz
      go_enter Try.func24, Try.ntmps24
      go_wp2_with (first
        | (refine wpListG_load (by rfl) 23 (.tmp 2) rfl w.heap.size rfl 23 (crC c) _ ka Try.underlying23 rfl (cr_inf _) ?_)
        | (refine wpList_store_blk rfl 23 (.tmp 5) (.tmp 7) rfl (w.heap.size + 1 + 1 + 1) (crC cr0) (crC c) 23 rfl rfl (Blk.new_ _ _ _ (by simp)) rfl (cr_inf _) (cr_one _) ?_; intro v2 k2 g2; have hs0 : (((w.alloc (.cells (crC c) 23)).alloc (.cells (deC (k, u, o, s)) 40)).alloc (.cells (crC cr0) 23)).heap.size = w.heap.size + 1 + 1 + 1 := (by simp); have bb := newC hs0.symm g2; have hB2 := B0.trans (bb.mono B0.size); have ka2 := ka.below bb ka.lt; have kd2 := kd.below bb kd.lt; have kr2 := kr.below bb kr.lt; clear ka kd kr bb hs0 g2; have q0 : v2.cell? ⟨w.heap.size + 1, 0, none⟩ = some (.int .i64 k) := kd2.cell 0; have q1 : v2.cell? ⟨w.heap.size + 1, 1, none⟩ = some (.int .i64 u) := kd2.cell 1)
        | (refine wpListG_load (by rfl) 23 (.tmp 2) rfl w.heap.size rfl 23 (crC c) _ ka2 Try.underlying23 rfl (cr_inf _) ?_)
        | (refine (HN.out _).mono ?_; clear HN; rintro e v3 ⟨rfl, g3⟩; have hB3 := hB2.trans (g3.mono hB2.size); have ka3 := ka2.below g3 ka2.lt; have kr3 := kr2.below g3 kr2.lt; have k3 := k2.below g3 k2.lt; clear ka2 kr2 k2 kd2)
        | (refine wpList_store_blk rfl 23 (.tmp 5) (.tmp 27) rfl (w.heap.size + 1 + 1 + 1) (crC c) (crC n1) 23 rfl rfl k3 rfl (cr_inf _) (cr_one _) ?_; intro v4 k4 g4; have hB4 := hB3.trans (g4.below _ (by omega) hB3.size); have ka4 := g4.blk7 ka3 (by omega); have kr4 := g4.blk7 kr3 (by omega); clear ka3 kr3 k3)
        | (refine wpListG_load (by rfl) 23 (.tmp 5) rfl (w.heap.size + 1 + 1 + 1) rfl 23 (crC n1) _ k4 Try.underlying23 rfl (cr_inf _) ?_)
        | (refine wpList_store_blk rfl 23 (.tmp 4) (.tmp 55) rfl (w.heap.size + 1 + 1) (crC cr0) (crC n1) 23 rfl rfl kr4 rfl (cr_inf _) (cr_one _) ?_; intro v5 k5 g5))
      refine bodyPost_ret (results_cell_row rfl _ _ (w.heap.size + 1 + 1) 23 (crC n1) (0, 0) _ rfl k5.blk Try.underlying23 rfl (cr_inf _)) rfl ?_
      exact ⟨n1, rfl, by simpa using HBN.out, hB4.trans (g5.below _ (by omega) hB4.size)⟩
    · have hne : (n2 != 0) = true := by simpa using hz
      clear hz
      go_enter Try.func24, Try.ntmps24
      go_wp2_with (first
        | (refine wpListG_load (by rfl) 23 (.tmp 2) rfl w.heap.size rfl 23 (crC c) _ ka Try.underlying23 rfl (cr_inf _) ?_)
        | (refine wpList_store_blk rfl 23 (.tmp 5) (.tmp 7) rfl (w.heap.size + 1 + 1 + 1) (crC cr0) (crC c) 23 rfl rfl (Blk.new_ _ _ _ (by simp)) rfl (cr_inf _) (cr_one _) ?_; intro v2 k2 g2; have hs0 : (((w.alloc (.cells (crC c) 23)).alloc (.cells (deC (k, u, o, s)) 40)).alloc (.cells (crC cr0) 23)).heap.size = w.heap.size + 1 + 1 + 1 := (by simp); have bb := newC hs0.symm g2; have hB2 := B0.trans (bb.mono B0.size); have ka2 := ka.below bb ka.lt; have kd2 := kd.below bb kd.lt; have kr2 := kr.below bb kr.lt; clear ka kd kr bb hs0 g2; have q0 : v2.cell? ⟨w.heap.size + 1, 0, none⟩ = some (.int .i64 k) := kd2.cell 0; have q1 : v2.cell? ⟨w.heap.size + 1, 1, none⟩ = some (.int .i64 u) := kd2.cell 1)
        | (refine wpListG_load (by rfl) 23 (.tmp 2) rfl w.heap.size rfl 23 (crC c) _ ka2 Try.underlying23 rfl (cr_inf _) ?_)
        | (refine (HN.out _).mono ?_; clear HN; rintro e v3 ⟨rfl, g3⟩; have hB3 := hB2.trans (g3.mono hB2.size); have ka3 := ka2.below g3 ka2.lt; have kr3 := kr2.below g3 kr2.lt; have k3 := k2.below g3 k2.lt; clear ka2 kr2 k2 kd2)
        | (refine wpList_store_blk rfl 23 (.tmp 5) (.tmp 27) rfl (w.heap.size + 1 + 1 + 1) (crC c) (crC n1) 23 rfl rfl k3 rfl (cr_inf _) (cr_one _) ?_; intro v4 k4 g4; have hB4 := hB3.trans (g4.below _ (by omega) hB3.size); have ka4 := g4.blk7 ka3 (by omega); have kr4 := g4.blk7 kr3 (by omega); clear ka3 kr3 k3)
        | (refine wpListG_load (by rfl) 23 (.tmp 2) rfl w.heap.size rfl 23 (crC c) _ ka4 Try.underlying23 rfl (cr_inf _) ?_)
        | (refine wpList_store_blk rfl 23 (.tmp 4) (.tmp 54) rfl (w.heap.size + 1 + 1) (crC cr0) (crC c) 23 rfl rfl kr4 rfl (cr_inf _) (cr_one _) ?_; intro v5 k5 g5))
      refine bodyPost_ret (results_cell_row rfl _ _ (w.heap.size + 1 + 1) 23 (crC c) (0, 0) _ rfl k5.blk Try.underlying23 rfl (cr_inf _)) rfl ?_
      exact ⟨c, rfl, HR.out, hB4.trans (g5.below _ (by omega) hB4.size)⟩
  · by_cases hz : d2 = 0
    · subst hz
      go_enter Try.func24, Try.ntmps24
      go_wp2_with (first
        | (refine wpListG_load (by rfl) 23 (.tmp 2) rfl w.heap.size rfl 23 (crC c) _ ka Try.underlying23 rfl (cr_inf _) ?_)
        | (refine wpList_store_blk rfl 23 (.tmp 5) (.tmp 7) rfl (w.heap.size + 1 + 1 + 1) (crC cr0) (crC c) 23 rfl rfl (Blk.new_ _ _ _ (by simp)) rfl (cr_inf _) (cr_one _) ?_; intro v2 k2 g2; have hs0 : (((w.alloc (.cells (crC c) 23)).alloc (.cells (deC (k, u, o, s)) 40)).alloc (.cells (crC cr0) 23)).heap.size = w.heap.size + 1 + 1 + 1 := (by simp); have bb := newC hs0.symm g2; have hB2 := B0.trans (bb.mono B0.size); have ka2 := ka.below bb ka.lt; have kd2 := kd.below bb kd.lt; have kr2 := kr.below bb kr.lt; clear ka kd kr bb hs0 g2; have q0 : v2.cell? ⟨w.heap.size + 1, 0, none⟩ = some (.int .i64 k) := kd2.cell 0; have q1 : v2.cell? ⟨w.heap.size + 1, 1, none⟩ = some (.int .i64 u) := kd2.cell 1)
        | (refine wpListG_load (by rfl) 23 (.tmp 2) rfl w.heap.size rfl 23 (crC c) _ ka2 Try.underlying23 rfl (cr_inf _) ?_)
        | (refine (HD.out _).mono ?_; clear HD; rintro e v3 ⟨rfl, g3⟩; have hB3 := hB2.trans (g3.mono hB2.size); have ka3 := ka2.below g3 ka2.lt; have kr3 := kr2.below g3 kr2.lt; have k3 := k2.below g3 k2.lt; clear ka2 kr2 k2 kd2)
        | (refine wpList_store_blk rfl 23 (.tmp 5) (.tmp 36) rfl (w.heap.size + 1 + 1 + 1) (crC c) (crC d1) 23 rfl rfl k3 rfl (cr_inf _) (cr_one _) ?_; intro v4 k4 g4; have hB4 := hB3.trans (g4.below _ (by omega) hB3.size); have ka4 := g4.blk7 ka3 (by omega); have kr4 := g4.blk7 kr3 (by omega); clear ka3 kr3 k3)
        | (refine wpListG_load (by rfl) 23 (.tmp 5) rfl (w.heap.size + 1 + 1 + 1) rfl 23 (crC d1) _ k4 Try.underlying23 rfl (cr_inf _) ?_)
        | (refine wpList_store_blk rfl 23 (.tmp 4) (.tmp 55) rfl (w.heap.size + 1 + 1) (crC cr0) (crC d1) 23 rfl rfl kr4 rfl (cr_inf _) (cr_one _) ?_; intro v5 k5 g5))
      refine bodyPost_ret (results_cell_row rfl _ _ (w.heap.size + 1 + 1) 23 (crC d1) (0, 0) _ rfl k5.blk Try.underlying23 rfl (cr_inf _)) rfl ?_
      exact ⟨d1, rfl, by simpa using HBD.out, hB4.trans (g5.below _ (by omega) hB4.size)⟩
    · have hne : (d2 != 0) = true := by simpa using hz
      clear hz
      go_enter Try.func24, Try.ntmps24
      go_wp2_with (first
        | (refine wpListG_load (by rfl) 23 (.tmp 2) rfl w.heap.size rfl 23 (crC c) _ ka Try.underlying23 rfl (cr_inf _) ?_)
        | (refine wpList_store_blk rfl 23 (.tmp 5) (.tmp 7) rfl (w.heap.size + 1 + 1 + 1) (crC cr0) (crC c) 23 rfl rfl (Blk.new_ _ _ _ (by simp)) rfl (cr_inf _) (cr_one _) ?_; intro v2 k2 g2; have hs0 : (((w.alloc (.cells (crC c) 23)).alloc (.cells (deC (k, u, o, s)) 40)).alloc (.cells (crC cr0) 23)).heap.size = w.heap.size + 1 + 1 + 1 := (by simp); have bb := newC hs0.symm g2; have hB2 := B0.trans (bb.mono B0.size); have ka2 := ka.below bb ka.lt; have kd2 := kd.below bb kd.lt; have kr2 := kr.below bb kr.lt; clear ka kd kr bb hs0 g2; have q0 : v2.cell? ⟨w.heap.size + 1, 0, none⟩ = some (.int .i64 k) := kd2.cell 0; have q1 : v2.cell? ⟨w.heap.size + 1, 1, none⟩ = some (.int .i64 u) := kd2.cell 1)
        | (refine wpListG_load (by rfl) 23 (.tmp 2) rfl w.heap.size rfl 23 (crC c) _ ka2 Try.underlying23 rfl (cr_inf _) ?_)
        | (refine (HD.out _).mono ?_; clear HD; rintro e v3 ⟨rfl, g3⟩; have hB3 := hB2.trans (g3.mono hB2.size); have ka3 := ka2.below g3 ka2.lt; have kr3 := kr2.below g3 kr2.lt; have k3 := k2.below g3 k2.lt; clear ka2 kr2 k2 kd2)
        | (refine wpList_store_blk rfl 23 (.tmp 5) (.tmp 36) rfl (w.heap.size + 1 + 1 + 1) (crC c) (crC d1) 23 rfl rfl k3 rfl (cr_inf _) (cr_one _) ?_; intro v4 k4 g4; have hB4 := hB3.trans (g4.below _ (by omega) hB3.size); have ka4 := g4.blk7 ka3 (by omega); have kr4 := g4.blk7 kr3 (by omega); clear ka3 kr3 k3)
        | (refine wpListG_load (by rfl) 23 (.tmp 2) rfl w.heap.size rfl 23 (crC c) _ ka4 Try.underlying23 rfl (cr_inf _) ?_)
        | (refine wpList_store_blk rfl 23 (.tmp 4) (.tmp 54) rfl (w.heap.size + 1 + 1) (crC cr0) (crC c) 23 rfl rfl kr4 rfl (cr_inf _) (cr_one _) ?_; intro v5 k5 g5))
      refine bodyPost_ret (results_cell_row rfl _ _ (w.heap.size + 1 + 1) 23 (crC c) (0, 0) _ rfl k5.blk Try.underlying23 rfl (cr_inf _)) rfl ?_
      exact ⟨c, rfl, HR.out, hB4.trans (g5.below _ (by omega) hB4.size)⟩
  · by_cases hz : s2 = 0
    · subst hz
      go_enter Try.func24, Try.ntmps24
      go_wp2_with (first
        | (refine wpListG_load (by rfl) 23 (.tmp 2) rfl w.heap.size rfl 23 (crC c) _ ka Try.underlying23 rfl (cr_inf _) ?_)
        | (refine wpList_store_blk rfl 23 (.tmp 5) (.tmp 7) rfl (w.heap.size + 1 + 1 + 1) (crC cr0) (crC c) 23 rfl rfl (Blk.new_ _ _ _ (by simp)) rfl (cr_inf _) (cr_one _) ?_; intro v2 k2 g2; have hs0 : (((w.alloc (.cells (crC c) 23)).alloc (.cells (deC (k, u, o, s)) 40)).alloc (.cells (crC cr0) 23)).heap.size = w.heap.size + 1 + 1 + 1 := (by simp); have bb := newC hs0.symm g2; have hB2 := B0.trans (bb.mono B0.size); have ka2 := ka.below bb ka.lt; have kd2 := kd.below bb kd.lt; have kr2 := kr.below bb kr.lt; clear ka kd kr bb hs0 g2; have q0 : v2.cell? ⟨w.heap.size + 1, 0, none⟩ = some (.int .i64 k) := kd2.cell 0; have q1 : v2.cell? ⟨w.heap.size + 1, 1, none⟩ = some (.int .i64 u) := kd2.cell 1)
        | (refine wpListG_load (by rfl) 23 (.tmp 2) rfl w.heap.size rfl 23 (crC c) _ ka2 Try.underlying23 rfl (cr_inf _) ?_)
        | (refine (HS.out _).mono ?_; clear HS; rintro e v3 ⟨rfl, g3⟩; have hB3 := hB2.trans (g3.mono hB2.size); have ka3 := ka2.below g3 ka2.lt; have kr3 := kr2.below g3 kr2.lt; have k3 := k2.below g3 k2.lt; clear ka2 kr2 k2 kd2)
        | (refine wpList_store_blk rfl 23 (.tmp 5) (.tmp 43) rfl (w.heap.size + 1 + 1 + 1) (crC c) (crC s1) 23 rfl rfl k3 rfl (cr_inf _) (cr_one _) ?_; intro v4 k4 g4; have hB4 := hB3.trans (g4.below _ (by omega) hB3.size); have ka4 := g4.blk7 ka3 (by omega); have kr4 := g4.blk7 kr3 (by omega); clear ka3 kr3 k3)
        | (refine wpListG_load (by rfl) 23 (.tmp 5) rfl (w.heap.size + 1 + 1 + 1) rfl 23 (crC s1) _ k4 Try.underlying23 rfl (cr_inf _) ?_)
        | (refine wpList_store_blk rfl 23 (.tmp 4) (.tmp 55) rfl (w.heap.size + 1 + 1) (crC cr0) (crC s1) 23 rfl rfl kr4 rfl (cr_inf _) (cr_one _) ?_; intro v5 k5 g5))
      refine bodyPost_ret (results_cell_row rfl _ _ (w.heap.size + 1 + 1) 23 (crC s1) (0, 0) _ rfl k5.blk Try.underlying23 rfl (cr_inf _)) rfl ?_
      exact ⟨s1, rfl, by simpa using HBS.out, hB4.trans (g5.below _ (by omega) hB4.size)⟩
    · have hne : (s2 != 0) = true := by simpa using hz
      clear hz
      go_enter Try.func24, Try.ntmps24
      go_wp2_with (first
        | (refine wpListG_load (by rfl) 23 (.tmp 2) rfl w.heap.size rfl 23 (crC c) _ ka Try.underlying23 rfl (cr_inf _) ?_)
        | (refine wpList_store_blk rfl 23 (.tmp 5) (.tmp 7) rfl (w.heap.size + 1 + 1 + 1) (crC cr0) (crC c) 23 rfl rfl (Blk.new_ _ _ _ (by simp)) rfl (cr_inf _) (cr_one _) ?_; intro v2 k2 g2; have hs0 : (((w.alloc (.cells (crC c) 23)).alloc (.cells (deC (k, u, o, s)) 40)).alloc (.cells (crC cr0) 23)).heap.size = w.heap.size + 1 + 1 + 1 := (by simp); have bb := newC hs0.symm g2; have hB2 := B0.trans (bb.mono B0.size); have ka2 := ka.below bb ka.lt; have kd2 := kd.below bb kd.lt; have kr2 := kr.below bb kr.lt; clear ka kd kr bb hs0 g2; have q0 : v2.cell? ⟨w.heap.size + 1, 0, none⟩ = some (.int .i64 k) := kd2.cell 0; have q1 : v2.cell? ⟨w.heap.size + 1, 1, none⟩ = some (.int .i64 u) := kd2.cell 1)
        | (refine wpListG_load (by rfl) 23 (.tmp 2) rfl w.heap.size rfl 23 (crC c) _ ka2 Try.underlying23 rfl (cr_inf _) ?_)
        | (refine (HS.out _).mono ?_; clear HS; rintro e v3 ⟨rfl, g3⟩; have hB3 := hB2.trans (g3.mono hB2.size); have ka3 := ka2.below g3 ka2.lt; have kr3 := kr2.below g3 kr2.lt; have k3 := k2.below g3 k2.lt; clear ka2 kr2 k2 kd2)
        | (refine wpList_store_blk rfl 23 (.tmp 5) (.tmp 43) rfl (w.heap.size + 1 + 1 + 1) (crC c) (crC s1) 23 rfl rfl k3 rfl (cr_inf _) (cr_one _) ?_; intro v4 k4 g4; have hB4 := hB3.trans (g4.below _ (by omega) hB3.size); have ka4 := g4.blk7 ka3 (by omega); have kr4 := g4.blk7 kr3 (by omega); clear ka3 kr3 k3)
        | (refine wpListG_load (by rfl) 23 (.tmp 2) rfl w.heap.size rfl 23 (crC c) _ ka4 Try.underlying23 rfl (cr_inf _) ?_)
        | (refine wpList_store_blk rfl 23 (.tmp 4) (.tmp 54) rfl (w.heap.size + 1 + 1) (crC cr0) (crC c) 23 rfl rfl kr4 rfl (cr_inf _) (cr_one _) ?_; intro v5 k5 g5))
      refine bodyPost_ret (results_cell_row rfl _ _ (w.heap.size + 1 + 1) 23 (crC c) (0, 0) _ rfl k5.blk Try.underlying23 rfl (cr_inf _)) rfl ?_
      exact ⟨c, rfl, HR.out, hB4.trans (g5.below _ (by omega) hB4.size)⟩
  · by_cases hz : f2 = 0
    · subst hz
      go_enter Try.func24, Try.ntmps24
      go_wp2_with (first
        | (refine wpListG_load (by rfl) 23 (.tmp 2) rfl w.heap.size rfl 23 (crC c) _ ka Try.underlying23 rfl (cr_inf _) ?_)
        | (refine wpList_store_blk rfl 23 (.tmp 5) (.tmp 7) rfl (w.heap.size + 1 + 1 + 1) (crC cr0) (crC c) 23 rfl rfl (Blk.new_ _ _ _ (by simp)) rfl (cr_inf _) (cr_one _) ?_; intro v2 k2 g2; have hs0 : (((w.alloc (.cells (crC c) 23)).alloc (.cells (deC (k, u, o, s)) 40)).alloc (.cells (crC cr0) 23)).heap.size = w.heap.size + 1 + 1 + 1 := (by simp); have bb := newC hs0.symm g2; have hB2 := B0.trans (bb.mono B0.size); have ka2 := ka.below bb ka.lt; have kd2 := kd.below bb kd.lt; have kr2 := kr.below bb kr.lt; clear ka kd kr bb hs0 g2; have q0 : v2.cell? ⟨w.heap.size + 1, 0, none⟩ = some (.int .i64 k) := kd2.cell 0; have q1 : v2.cell? ⟨w.heap.size + 1, 1, none⟩ = some (.int .i64 u) := kd2.cell 1)
        | (refine wpListG_load (by rfl) 23 (.tmp 2) rfl w.heap.size rfl 23 (crC c) _ ka2 Try.underlying23 rfl (cr_inf _) ?_)
        | (refine (HF.out _).mono ?_; clear HF; rintro e v3 ⟨rfl, g3⟩; have hB3 := hB2.trans (g3.mono hB2.size); have ka3 := ka2.below g3 ka2.lt; have kr3 := kr2.below g3 kr2.lt; have k3 := k2.below g3 k2.lt; clear ka2 kr2 k2 kd2)
        | (refine wpList_store_blk rfl 23 (.tmp 5) (.tmp 50) rfl (w.heap.size + 1 + 1 + 1) (crC c) (crC f1) 23 rfl rfl k3 rfl (cr_inf _) (cr_one _) ?_; intro v4 k4 g4; have hB4 := hB3.trans (g4.below _ (by omega) hB3.size); have ka4 := g4.blk7 ka3 (by omega); have kr4 := g4.blk7 kr3 (by omega); clear ka3 kr3 k3)
        | (refine wpListG_load (by rfl) 23 (.tmp 5) rfl (w.heap.size + 1 + 1 + 1) rfl 23 (crC f1) _ k4 Try.underlying23 rfl (cr_inf _) ?_)
        | (refine wpList_store_blk rfl 23 (.tmp 4) (.tmp 55) rfl (w.heap.size + 1 + 1) (crC cr0) (crC f1) 23 rfl rfl kr4 rfl (cr_inf _) (cr_one _) ?_; intro v5 k5 g5))
      refine bodyPost_ret (results_cell_row rfl _ _ (w.heap.size + 1 + 1) 23 (crC f1) (0, 0) _ rfl k5.blk Try.underlying23 rfl (cr_inf _)) rfl ?_
      exact ⟨f1, rfl, by simpa using HBF.out, hB4.trans (g5.below _ (by omega) hB4.size)⟩
    · have hne : (f2 != 0) = true := by simpa using hz
      clear hz
      go_enter Try.func24, Try.ntmps24
      go_wp2_with (first
        | (refine wpListG_load (by rfl) 23 (.tmp 2) rfl w.heap.size rfl 23 (crC c) _ ka Try.underlying23 rfl (cr_inf _) ?_)
        | (refine wpList_store_blk rfl 23 (.tmp 5) (.tmp 7) rfl (w.heap.size + 1 + 1 + 1) (crC cr0) (crC c) 23 rfl rfl (Blk.new_ _ _ _ (by simp)) rfl (cr_inf _) (cr_one _) ?_; intro v2 k2 g2; have hs0 : (((w.alloc (.cells (crC c) 23)).alloc (.cells (deC (k, u, o, s)) 40)).alloc (.cells (crC cr0) 23)).heap.size = w.heap.size + 1 + 1 + 1 := (by simp); have bb := newC hs0.symm g2; have hB2 := B0.trans (bb.mono B0.size); have ka2 := ka.below bb ka.lt; have kd2 := kd.below bb kd.lt; have kr2 := kr.below bb kr.lt; clear ka kd kr bb hs0 g2; have q0 : v2.cell? ⟨w.heap.size + 1, 0, none⟩ = some (.int .i64 k) := kd2.cell 0; have q1 : v2.cell? ⟨w.heap.size + 1, 1, none⟩ = some (.int .i64 u) := kd2.cell 1)
        | (refine wpListG_load (by rfl) 23 (.tmp 2) rfl w.heap.size rfl 23 (crC c) _ ka2 Try.underlying23 rfl (cr_inf _) ?_)
        | (refine (HF.out _).mono ?_; clear HF; rintro e v3 ⟨rfl, g3⟩; have hB3 := hB2.trans (g3.mono hB2.size); have ka3 := ka2.below g3 ka2.lt; have kr3 := kr2.below g3 kr2.lt; have k3 := k2.below g3 k2.lt; clear ka2 kr2 k2 kd2)
        | (refine wpList_store_blk rfl 23 (.tmp 5) (.tmp 50) rfl (w.heap.size + 1 + 1 + 1) (crC c) (crC f1) 23 rfl rfl k3 rfl (cr_inf _) (cr_one _) ?_; intro v4 k4 g4; have hB4 := hB3.trans (g4.below _ (by omega) hB3.size); have ka4 := g4.blk7 ka3 (by omega); have kr4 := g4.blk7 kr3 (by omega); clear ka3 kr3 k3)
        | (refine wpListG_load (by rfl) 23 (.tmp 2) rfl w.heap.size rfl 23 (crC c) _ ka4 Try.underlying23 rfl (cr_inf _) ?_)
        | (refine wpList_store_blk rfl 23 (.tmp 4) (.tmp 54) rfl (w.heap.size + 1 + 1) (crC cr0) (crC c) 23 rfl rfl kr4 rfl (cr_inf _) (cr_one _) ?_; intro v5 k5 g5))
      refine bodyPost_ret (results_cell_row rfl _ _ (w.heap.size + 1 + 1) 23 (crC c) (0, 0) _ rfl k5.blk Try.underlying23 rfl (cr_inf _)) rfl ?_
      exact ⟨c, rfl, HR.out, hB4.trans (g5.below _ (by omega) hB4.size)⟩
end Go.Proofs.Yteoeflainejaaaa
