/-
  The reference's Take.
-/
import Derived.Test.YtfohifnbohdbcaaQScTl
namespace Go.Proofs.Ytfohifnbohdbcaa
open Go.RowKit Go.Shelf
set_option linter.unusedVariables false
set_option linter.unusedSimpArgs false
def takeW (R : List Rn) (L : List Kw) (id n : Int) : (List Rn × List Kn × Int) × Bool :=
  if schB R L = true then (if ((fndR R id).2 && !((fndR R id).1.s == 2)) = true then (if (decide (n < 1) || (decide (40 < n) || (fndR R id).1.s == 1)) = true then (([], [], 2), false) else if (fndK L n).2 = true then (if ((fndK L n).1.1.o == id) = true then (([], [], 231), false) else ((putG numR ⟨id, 1, n⟩ false R, putG (·.n) ⟨n, (fndK L n).1.1.o, (fndK L n).1.1.q ++ [id]⟩ ((fndK L n).1.1.o == 0) (L.map (·.1)), 0), false)) else ((R, putG (·.n) ⟨n, id, []⟩ (id == 0) (L.map (·.1)), 0), true)) else (([], [], 4), false)) else (([], [], 230), false)
theorem take_snocI {l : List Int} {k : Nat} (h : k < l.length) : l.take (k + 1) = l.take k ++ [l.getD k 0] := by
  rw [List.take_succ_eq_append_getElem h, show l.getD k 0 = l[k] by simp [List.getD, h]]
set_option maxRecDepth 100000 in
set_option maxHeartbeats 16000000 in
theorem rtake_sc (A : Option Addr) (m c : Nat) (R : List Rn) (A2 : Option Addr) (m2 c2 : Nat) (L : List Kw) (id n : Int) (w : World) (h : Sc w w.heap.size A m c R A2 m2 c2 L) :
    Calls Try.prog 19 #[scV A m c A2 m2 c2, .int .i64 id, .int .i64 n] w fun e w' => ∃ v, e = .returned (.tuple #[v, .bool (takeW R L id n).2, .int .i64 (takeW R L id n).1.2.2]) ∧ ScQ w' v ((takeW R L id n).1.1, (takeW R L id n).1.2.1) ∧ Below w.heap.size w w' := by
  have k30 := (Blk.new w (scC A m c A2 m2 c2) 25).alloc (.cells #[.slice none 0 0, .slice none 0 0] 25)
  have k60 : Blk ((w.alloc (.cells (scC A m c A2 m2 c2) 25)).alloc (.cells #[.slice none 0 0, .slice none 0 0] 25)) (w.heap.size + 1) (scC none 0 0 none 0 0) 25 := Blk.new_ _ _ _ (by simp)
  have B0 := ((Below.refl w.heap.size w).alloc (Nat.le_refl _) (.cells (scC A m c A2 m2 c2) 25)).alloc (by simp) (.cells #[.slice none 0 0, .slice none 0 0] 25)
  have HS := Lib.hid h
  have HRT := Lib.hid (fun (V : World) (hV : Below w.heap.size w V) => right_sc A m c R A2 m2 c2 L V (h.on hV))
  have HFR := Lib.hid (fun (V : World) (hV : Below w.heap.size w V) => find_R A m c R A2 m2 c2 L id V (h.on hV))
  have HFK := Lib.hid (fun (V : World) (hV : Below w.heap.size w V) => find_K A m c R A2 m2 c2 L n V (h.on hV))
  rw [right_eq] at HRT
  have HSM := Lib.hid (fun (hs : schB R L = true) => (show m ≤ 8 ∧ m2 ≤ 40 from ⟨by have := (okd_of h (by unfold scE; rw [if_pos hs])).r; have := h.len; omega, by have := (schB_small hs).1; have := h.len2; omega⟩))
  have HYL0 : (fndK L n).1.1.q.length ≤ 999999 ∨ schB R L = false := by
    cases hs : schB R L
    · exact .inr rfl
    · refine .inl ?_
      by_cases h0 : (fndK L n).1.1.q = []
      · rw [h0]; exact Nat.zero_le _
      · have := (schB_small hs).2 _ (fndK_mem h0); omega
  have HYM := Lib.hid (fun (h : (fndK L n).1.1.q ≠ []) => fndK_mem h)
  obtain ⟨r, hr⟩ : ∃ r, takeW R L id n = r := ⟨_, rfl⟩
  rw [hr]
  unfold takeW at hr
  obtain ⟨⟨x, xb⟩, hx⟩ : ∃ p, fndR R id = p := ⟨_, rfl⟩
  obtain ⟨⟨y, yb⟩, hy⟩ : ∃ p, fndK L n = p := ⟨_, rfl⟩
  rw [hx] at HFR hr
  rw [hy] at HFK hr HYM HYL0
  generalize schB R L = sB at HRT HSM hr HYL0
  have HYL1 := Lib.hid HYL0
  clear HYL0
  have HR0 := Lib.hid hr.symm
  clear hr hx hy h
  simp only at HR0 HYM
  unfold scV kwV at HFK
  unfold scV rnV at HFR
  unfold scV at HRT
  go_enter Try.func19, Try.ntmps19
  cases sB
  · have HR := Lib.hid (show r = (([], [], 230), false) by rw [HR0.out, if_neg (by simp)])
    clear HR0
    go_wp2_with (first
      | (refine wpList_load_row rfl 25 (.tmp 3) rfl w.heap.size rfl 25 (scC A m c A2 m2 c2) (0, 0) _ k30.blk Try.underlying25 rfl (sc_inf _ _ _ _ _ _) ?_)
      | (refine (HRT.out _ B0).mono ?_
         clear HRT
         rintro e w1 ⟨rfl, bb⟩
         have k31 := k30.below bb k30.lt
         have k61 := k60.below bb k60.lt
         have B1 := B0.trans (bb.mono B0.size)
         clear bb k30 k60 B0)
      | (refine wpList_store_blk rfl 25 (.tmp 6) (.tmp 18) rfl (w.heap.size + 1) (scC none 0 0 none 0 0) (scC none 0 0 none 0 0) 25 rfl rfl k61 rfl (sc_inf _ _ _ _ _ _) (sc_one _ _ _ _ _ _) ?_
         intro wz hz nz
         have Bz := B1.trans (nz.below _ (by omega) B1.size)
         clear nz k61 k31 B1))
    refine bodyPost_ret (results_row_tmpQ rfl _ _ (w.heap.size + 1) 25 (scC none 0 0 none 0 0) _ rfl hz Try.underlying25 rfl (sc_inf _ _ _ _ _ _) _ _ rfl rfl) rfl ?_
    exact ⟨_, by rw [HR.out]; rfl, by rw [HR.out]; exact scQ_nil wz, Bz⟩
  · cases xb
    · have HR := Lib.hid (show r = (([], [], 4), false) by rw [HR0.out, if_pos rfl, if_neg (by simp)])
      clear HR0
      go_wp2_with (first
        | (refine wpList_load_row rfl 25 (.tmp 3) rfl w.heap.size rfl 25 (scC A m c A2 m2 c2) (0, 0) _ k30.blk Try.underlying25 rfl (sc_inf _ _ _ _ _ _) ?_)
        | (refine (HRT.out _ B0).mono ?_
           clear HRT
           rintro e w1 ⟨rfl, bb⟩
           have k31 := k30.below bb k30.lt
           have k61 := k60.below bb k60.lt
           have B1 := B0.trans (bb.mono B0.size)
           clear bb k30 k60 B0)
        | (refine wpList_load_row rfl 25 (.tmp 3) rfl w.heap.size rfl 25 (scC A m c A2 m2 c2) (0, 0) _ k31.blk Try.underlying25 rfl (sc_inf _ _ _ _ _ _) ?_)
        | (refine (HFR.out _ B1).mono ?_
           clear HFR
           rintro e w2 ⟨rfl, bb⟩
           have k32 := k31.below bb k31.lt
           have k62 := k61.below bb k61.lt
           have B2 := B1.trans (bb.mono B1.size)
           clear bb k31 k61 B1)
        | (refine wpList_store_blk rfl 52 (.tmp 9) (.tmp 23) rfl w2.heap.size (rnC rn0) (rnC x) 52 rfl rfl (Blk.new _ _ _) rfl (rn_inf x) (rn_one x) ?_
           intro w3 kb3 nb3
           have bb : Below w2.heap.size w2 w3 := ((Below.refl _ w2).alloc (Nat.le_refl _) _).trans (nb3.below _ (Nat.le_refl _) (by simp))
           have k33 := k32.below bb k32.lt
           have k63 := k62.below bb k62.lt
           have B3 := B2.trans (bb.mono B2.size)
           have q8 : w3.cell? ⟨w2.heap.size, 1, none⟩ = some (.int .i64 x.s) := kb3.cell 1
           clear bb nb3 kb3 k32 k62 B2)
        | (refine wpList_store_blk rfl 25 (.tmp 6) (.tmp 32) rfl (w.heap.size + 1) (scC none 0 0 none 0 0) (scC none 0 0 none 0 0) 25 rfl rfl k63 rfl (sc_inf _ _ _ _ _ _) (sc_one _ _ _ _ _ _) ?_
           intro wz hz nz
           have Bz := B3.trans (nz.below _ (by omega) B3.size)
           clear nz k63 k33 B3))
      refine bodyPost_ret (results_row_tmpQ rfl _ _ (w.heap.size + 1) 25 (scC none 0 0 none 0 0) _ rfl hz Try.underlying25 rfl (sc_inf _ _ _ _ _ _) _ _ rfl rfl) rfl ?_
      exact ⟨_, by rw [HR.out]; rfl, by rw [HR.out]; exact scQ_nil wz, Bz⟩
    · cases hs2 : (x.s == 2)
      · cases h1 : decide (n < 1)
        · cases h2 : decide (40 < n)
          · cases hs1 : (x.s == 1)
            · cases yb
              · have HR := Lib.hid (show r = ((R, putG (·.n) ⟨n, id, []⟩ (id == 0) (L.map (·.1)), 0), true) by rw [HR0.out, if_pos rfl, if_pos (by rw [hs2]; rfl), if_neg (by rw [h1, h2, hs1]; simp), if_neg (by simp)])
                clear HR0
                have HPU := Lib.hid (fun (V : World) (hV : Below w.heap.size w V) => put_K A2 m2 c2 L (⟨n, id, []⟩, (none, 0)) V ((HS.out.ks.below hV (Nat.le_refl _)).more hV.size) HS.out.len2 (by have := (HSM.out (by trivial)).2; omega))
                go_wp2_with (first
                  | (refine wpList_load_row rfl 25 (.tmp 3) rfl w.heap.size rfl 25 (scC A m c A2 m2 c2) (0, 0) _ k30.blk Try.underlying25 rfl (sc_inf _ _ _ _ _ _) ?_)
                  | (refine (HRT.out _ B0).mono ?_
                     clear HRT
                     rintro e w1 ⟨rfl, bb⟩
                     have k31 := k30.below bb k30.lt
                     have k61 := k60.below bb k60.lt
                     have B1 := B0.trans (bb.mono B0.size)
                     clear bb k30 k60 B0)
                  | (refine wpList_load_row rfl 25 (.tmp 3) rfl w.heap.size rfl 25 (scC A m c A2 m2 c2) (0, 0) _ k31.blk Try.underlying25 rfl (sc_inf _ _ _ _ _ _) ?_)
                  | (refine (HFR.out _ B1).mono ?_
                     clear HFR
                     rintro e w2 ⟨rfl, bb⟩
                     have k32 := k31.below bb k31.lt
                     have k62 := k61.below bb k61.lt
                     have B2 := B1.trans (bb.mono B1.size)
                     clear bb k31 k61 B1)
                  | (refine wpList_store_blk rfl 52 (.tmp 9) (.tmp 23) rfl w2.heap.size (rnC rn0) (rnC x) 52 rfl rfl (Blk.new _ _ _) rfl (rn_inf x) (rn_one x) ?_
                     intro w3 kb3 nb3
                     have bb : Below w2.heap.size w2 w3 := ((Below.refl _ w2).alloc (Nat.le_refl _) _).trans (nb3.below _ (Nat.le_refl _) (by simp))
                     have k33 := k32.below bb k32.lt
                     have k63 := k62.below bb k62.lt
                     have B3 := B2.trans (bb.mono B2.size)
                     have q8 : w3.cell? ⟨w2.heap.size, 1, none⟩ = some (.int .i64 x.s) := kb3.cell 1
                     clear bb nb3 kb3 k32 k62 B2)
                  | (refine wpList_load_row rfl 25 (.tmp 3) rfl w.heap.size rfl 25 (scC A m c A2 m2 c2) (0, 0) _ k33.blk Try.underlying25 rfl (sc_inf _ _ _ _ _ _) ?_)
                  | (refine (HFK.out _ B3).mono ?_
                     clear HFK
                     rintro e w4 ⟨rfl, bb⟩
                     have k34 := k33.below bb k33.lt
                     have k64 := k63.below bb k63.lt
                     have B4 := B3.trans (bb.mono B3.size)
                     clear bb k33 k63 B3)
                  | (refine wpList_store_blk rfl 48 (.tmp 11) (.tmp 49) rfl w4.heap.size (kwC kw0) (kwC y) 48 rfl rfl (Blk.new _ _ _) rfl (kw_inf y) (kw_one y) ?_
                     intro w5 kb5 nb5
                     have bb : Below w4.heap.size w4 w5 := ((Below.refl _ w4).alloc (Nat.le_refl _) _).trans (nb5.below _ (Nat.le_refl _) (by simp))
                     have k35 := k34.below bb k34.lt
                     have k65 := k64.below bb k64.lt
                     have B5 := B4.trans (bb.mono B4.size)
                     have q10 : w5.cell? ⟨w4.heap.size, 1, none⟩ = some (.int .i64 y.1.o) := kb5.cell 1
                     have q51 : w5.cell? ⟨w.heap.size, 1, none⟩ = some (.slice A2 m2 c2) := k35.cell 1
                     have h4g : w.heap.size < w4.heap.size := k34.lt
                     clear bb nb5 kb5 k34 k64 B4)
                  | (refine (HPU.out _ B5).mono ?_
                     clear HPU
                     rintro e w6 ⟨G, gm, gc, rfl, rg, bb⟩
                     have k36 := k35.below bb k35.lt
                     have k66 := k65.below bb k65.lt
                     have B6 := B5.trans (bb.mono B5.size)
                     have rg := rg.down B5.size
                     have q3 : w6.cell? ⟨w.heap.size, 1, none⟩ = some (.slice A2 m2 c2) := k36.cell 1
                     have f3 := k36.frozen 1
                     have n7 : But w.heap.size w6 (w6.setCell ⟨w.heap.size, 1, none⟩ (.slice G gm gc)) := (But.refl w.heap.size w6).setCell (p := ⟨w.heap.size, 1, none⟩) (.inl rfl) _
                     have k37 : Blk (w6.setCell ⟨w.heap.size, 1, none⟩ (.slice G gm gc)) w.heap.size (scC A m c G gm gc) 25 := k36.set_ 1 _
                     have k67 := n7.blk7 k66 (by omega)
                     have rg7 : RoK _ w.heap.size G gm gc _ := own_kind rg (grown_but n7) (fun g' e => by cases e; exact ⟨_, _, k36, by decide⟩)
                     have B7 := B6.trans (n7.below _ (Nat.le_refl _) B6.size)
                     have HZ := Lib.hid (And.intro k67 (And.intro rg7 B7))
                     clear bb k35 k65 B5 rg n7 k67 rg7 B7 k66 B6 q10 q51)
                  | (refine wpList_load_row rfl 25 (.tmp 3) rfl w.heap.size rfl 25 (scC A m c G gm gc) (0, 0) _ k37.blk Try.underlying25 rfl (sc_inf A m c G gm gc) ?_)
                  | (refine wpList_store_blk rfl 25 (.tmp 6) (.tmp 60) rfl (w.heap.size + 1) (scC none 0 0 none 0 0) (scC A m c G gm gc) 25 rfl rfl HZ.out.1 rfl (sc_inf _ _ _ _ _ _) (sc_one _ _ _ _ _ _) ?_
                     intro wz hz nz))
                have hzz := HZ.out
                have rgz : RoK wz w.heap.size G gm gc (putG numK (((⟨n, id, []⟩, (none, 0)) : Kw)) (id == 0) L) := own_kind hzz.2.1 (grown_but nz) (fun g' e => by cases e; exact ⟨_, _, hzz.1, by decide⟩)
                have Bz := hzz.2.2.trans (nz.below _ (by omega) hzz.2.2.size)
                have hsz := HS.out.on Bz
                have rgl := rgz.len
                have hgm : gm ≤ L.length + 1 := by rw [rgl]; exact Nat.le_trans (putG_len numK _ L _) (by split <;> omega)
                refine bodyPost_ret (results_row_tmpQ rfl _ _ (w.heap.size + 1) 25 (scC A m c G gm gc) _ rfl hz Try.underlying25 rfl (sc_inf _ _ _ _ _ _) _ _ rfl rfl) rfl ?_
                exact ⟨_, by rw [HR.out]; rfl, by rw [HR.out]; exact ⟨A, m, c, G, gm, gc, _, rfl, ⟨hsz.rs, rgz.rs, fun z hz9 => (by
                    rcases putG_mem numK _ hz9 with rfl | hz9
                    · exact ⟨fun j hj => absurd hj (by simp), Nat.le_refl _, Nat.zero_le _⟩
                    · exact hsz.q z hz9), hsz.len, rgl, hsz.lim, by have := HS.out.len2; have := (HSM.out (by trivial)).2; omega⟩, putG_map numK (·.n) (·.1) (fun _ => rfl) _ L (id == 0)⟩, Bz⟩
              · cases h3 : (y.1.o == id)
                · have HR := Lib.hid (show r = ((putG numR ⟨id, 1, n⟩ false R, putG (·.n) ⟨n, y.1.o, y.1.q ++ [id]⟩ (y.1.o == 0) (L.map (·.1)), 0), false) by rw [HR0.out, if_pos rfl, if_pos (by rw [hs2]; rfl), if_neg (by rw [h1, h2, hs1]; simp), if_pos rfl, if_neg (by rw [h3]; simp)])
                  clear HR0
                  have h40 : m2 ≤ 40 := (HSM.out (by trivial)).2
                  have hm2q : m2 ≤ 100000 := by omega
                  go_wp2_with (first
                    | (refine wpList_load_row rfl 25 (.tmp 3) rfl w.heap.size rfl 25 (scC A m c A2 m2 c2) (0, 0) _ k30.blk Try.underlying25 rfl (sc_inf _ _ _ _ _ _) ?_)
                    | (refine (HRT.out _ B0).mono ?_
                       clear HRT
                       rintro e w1 ⟨rfl, bb⟩
                       have k31 := k30.below bb k30.lt
                       have k61 := k60.below bb k60.lt
                       have B1 := B0.trans (bb.mono B0.size)
                       clear bb k30 k60 B0)
                    | (refine wpList_load_row rfl 25 (.tmp 3) rfl w.heap.size rfl 25 (scC A m c A2 m2 c2) (0, 0) _ k31.blk Try.underlying25 rfl (sc_inf _ _ _ _ _ _) ?_)
                    | (refine (HFR.out _ B1).mono ?_
                       clear HFR
                       rintro e w2 ⟨rfl, bb⟩
                       have k32 := k31.below bb k31.lt
                       have k62 := k61.below bb k61.lt
                       have B2 := B1.trans (bb.mono B1.size)
                       clear bb k31 k61 B1)
                    | (refine wpList_store_blk rfl 52 (.tmp 9) (.tmp 23) rfl w2.heap.size (rnC rn0) (rnC x) 52 rfl rfl (Blk.new _ _ _) rfl (rn_inf x) (rn_one x) ?_
                       intro w3 kb3 nb3
                       have bb : Below w2.heap.size w2 w3 := ((Below.refl _ w2).alloc (Nat.le_refl _) _).trans (nb3.below _ (Nat.le_refl _) (by simp))
                       have k33 := k32.below bb k32.lt
                       have k63 := k62.below bb k62.lt
                       have B3 := B2.trans (bb.mono B2.size)
                       have q8 : w3.cell? ⟨w2.heap.size, 1, none⟩ = some (.int .i64 x.s) := kb3.cell 1
                       clear bb nb3 kb3 k32 k62 B2)
                    | (refine wpList_load_row rfl 25 (.tmp 3) rfl w.heap.size rfl 25 (scC A m c A2 m2 c2) (0, 0) _ k33.blk Try.underlying25 rfl (sc_inf _ _ _ _ _ _) ?_)
                    | (refine (HFK.out _ B3).mono ?_
                       clear HFK
                       rintro e w4 ⟨rfl, bb⟩
                       have k34 := k33.below bb k33.lt
                       have k64 := k63.below bb k63.lt
                       have B4 := B3.trans (bb.mono B3.size)
                       clear bb k33 k63 B3)
                    | (refine wpList_store_blk rfl 48 (.tmp 11) (.tmp 49) rfl w4.heap.size (kwC kw0) (kwC y) 48 rfl rfl (Blk.new _ _ _) rfl (kw_inf y) (kw_one y) ?_
                       intro w5 kb5 nb5
                       have bb : Below w4.heap.size w4 w5 := ((Below.refl _ w4).alloc (Nat.le_refl _) _).trans (nb5.below _ (Nat.le_refl _) (by simp))
                       have k35 := k34.below bb k34.lt
                       have k65 := k64.below bb k64.lt
                       have B5 := B4.trans (bb.mono B4.size)
                       have q10 : w5.cell? ⟨w4.heap.size, 1, none⟩ = some (.int .i64 y.1.o) := kb5.cell 1
                       have k11 := kb5
                       have h4g : w.heap.size < w4.heap.size := k34.lt
                       have q12 : w5.cell? ⟨w4.heap.size, 2, none⟩ = some (.slice y.2.1 y.1.q.length y.2.2) := kb5.cell 2
                       clear bb nb5 kb5 k34 k64 B4))
                  obtain ⟨wb, hwb5⟩ : ∃ wb, wb = w5 := ⟨_, rfl⟩
                  have hb5 : Below wb.heap.size wb w5 := by rw [hwb5]; exact Below.refl _ _
                  have hyl : y.1.q.length ≤ 999999 := HYL1.out.elim (fun h => h) (fun h => by cases h)
                  have HYR : Hid (y.1.q ≠ [] → Ri7 w w.heap.size y.2.1 y.1.q) := Lib.hid (fun h => (HS.out.q y (HYM.out h)).ri)
                  rw [← hwb5] at k35 k65 B5 k11 q10
                  clear hwb5 q12
                  have h3b := k35.lt
                  have h6b := k65.lt
                  have h11 := k11.lt
                  have hwb := B5.size
                  go_loopw [13, 14] (fun qv iv wr' => ∃ (k : Nat) (wr : World) (QA : Option Addr) (qm qc : Nat), wr = wr' ∧ k ≤ y.1.q.length ∧ iv = .int .i64 k ∧ qv = .slice QA qm qc ∧ Hid (Zo wr wb.heap.size QA qm qc (y.1.q.take k)) ∧ Below wb.heap.size wb wr) (fun _ iv _ => y.1.q.length - (intOf iv).toNat)
                  case atStart => exact ⟨0, _, none, 0, 0, rfl, Nat.zero_le _, rfl, rfl, Lib.hid (by rw [List.take_zero]; exact zo_nil _ _), hb5⟩
                  case round =>
                    clear hb5
                    obtain ⟨k, wr, QA, qm, qc, hwr, hk, rfl, rfl, HZ, hB⟩ := hrel
                    subst hwr
                    have qy : wr.cell? ⟨w4.heap.size, 2, none⟩ = some (.slice y.2.1 y.1.q.length y.2.2) := (k11.below hB h11).cell 2
                    have HQM := Lib.hid (show k = qm by have := HZ.out.len; rw [List.length_take] at this; omega)
                    by_cases hlt : k < y.1.q.length
                    · have hlt' : (k : Int) < (y.1.q.length : Int) := by omega
                      have hne : y.1.q ≠ [] := fun e => by rw [e] at hlt; exact absurd hlt (by simp)
                      obtain ⟨b, off, eb, hb, hc⟩ := ((HYR.out hne).below (B5.trans (hB.mono hwb)) (Nat.le_refl _)) k hlt
                      rw [eb] at qy
                      have HTK := Lib.hid (take_snocI hlt)
                      generalize y.1.q.getD k 0 = v at hc HTK
                      have Z := HZ.out
                      have hqk := HQM.out
                      clear HZ hne HQM
                      subst hqk
                      go_wp2_with (first
                        | (at_builtin; refine wpList_app1Z rfl (.tmp 73) (.tmp 79) rfl wb.heap.size QA k qc _ rfl (Z.below ((Below.refl _ wr).alloc (Nat.le_refl _) _) (Nat.le_refl _)) wr.heap.size v rfl (cell_one_new _ _ _ 0 _ rfl) (by omega) (Nat.le_trans hB.size (by simp)) ?_
                           intro O2 oc2 wy z3 b3
                           have hB3 := (hB.trans (((Below.refl _ wr).alloc (Nat.le_refl _) (.cells #[.int .i64 v] 3)).mono hB.size)).trans b3))
                      go_roundw
                      case rel => exact ⟨k + 1, _, O2, k + 1, oc2, rfl, by omega, by go_num, rfl, Lib.hid (by rw [HTK.out]; exact z3), hB3⟩
                      case measure => simp [intOf]; omega
                    · have hkm : y.1.q.length = k := by omega
                      have zq := HZ.out
                      rw [List.take_of_length_le (by omega)] at zq
                      have hq6 : qm + 1 ≤ 1000000 := by have := HQM.out; omega
                      clear HQM
                      have k3 := k35.below hB h3b
                      have k6 := k65.below hB h6b
                      have Bc := B5.trans (hB.mono hwb)
                      have hsz := hB.size
                      have q11_ : wr.cell? ⟨w4.heap.size, 1, none⟩ = some (.int .i64 y.1.o) := (k11.below hB h11).cell 1
                      have hklt : ¬ ((k : Int) < (y.1.q.length : Int)) := by omega
                      clear HZ k35 k65 B5 k11 hB hlt q10
                      go_wp2_with fail
                      try simp only [Act.put]
                      refine region_cutP ?_
                      have bd : Below wr.heap.size wr wr.drew := (Below.refl _ _).drew
                      have zq := zq.below bd (Nat.le_refl _)
                      have k3 := k3.drew
                      have k6 := k6.drew
                      have Bc := Bc.drew
                      have hsz : wb.heap.size ≤ wr.drew.heap.size := hsz
                      have J : (fun V : World => V.cell? ⟨w4.heap.size, 1, none⟩ = some (.int .i64 y.1.o)) wr.drew := q11_
                      clear bd q11_ qy
                      refine wp_region_held_drew (S := (fun V : World => V.cell? ⟨w4.heap.size, 1, none⟩ = some (.int .i64 y.1.o))) (by kernel_rfl) J (fun _ => ?_)
                      generalize wr.drew = Wc at J k3 k6 Bc hsz zq ⊢
                      refine wpAnyH_take (i := 0) (v := .pointer (some ⟨w.heap.size, 1, none⟩)) rfl (by kernel_rfl) (by kernel_rfl) (by kernel_rfl) (fun _ _ _ h => nomatch h.1) (.inl ⟨by rfl, fun V hV => by go_simp⟩) J ?_
                      try simp only [Act.put, List.getElem_toArray, List.getElem_cons_zero, List.getElem_cons_succ, List.setIfInBounds_toArray, List.set_cons_zero, List.set_cons_succ]
                      refine wpAnyH_take (i := 2) (v := .int .i64 n) rfl (by kernel_rfl) (by kernel_rfl) (by kernel_rfl) (fun _ _ _ h => nomatch h.1) (.inl ⟨by rfl, fun V hV => by go_simp⟩) J ?_
                      try simp only [Act.put, List.getElem_toArray, List.getElem_cons_zero, List.getElem_cons_succ, List.setIfInBounds_toArray, List.set_cons_zero, List.set_cons_succ]
                      refine wpAnyH_take (i := 3) (v := .pointer (some ⟨w4.heap.size, 1, none⟩)) rfl (by kernel_rfl) (by kernel_rfl) (by kernel_rfl) (fun _ _ _ h => nomatch h.1) (.inl ⟨by rfl, fun V hV => by go_simp⟩) J ?_
                      try simp only [Act.put, List.getElem_toArray, List.getElem_cons_zero, List.getElem_cons_succ, List.setIfInBounds_toArray, List.set_cons_zero, List.set_cons_succ]
                      refine wpAnyH_take (i := 5) (v := .slice QA qm qc) rfl (by kernel_rfl) (by kernel_rfl) (by kernel_rfl) (fun _ _ _ h => nomatch h.1) (.inl ⟨by rfl, fun V hV => by go_simp⟩) J ?_
                      try simp only [Act.put, List.getElem_toArray, List.getElem_cons_zero, List.getElem_cons_succ, List.setIfInBounds_toArray, List.set_cons_zero, List.set_cons_succ]
                      refine wpAnyH_take (i := 6) (v := .int .i64 id) rfl (by kernel_rfl) (by kernel_rfl) (by kernel_rfl) (fun _ _ _ h => nomatch h.1) (.inl ⟨by rfl, fun V hV => by go_simp⟩) J ?_
                      try simp only [Act.put, List.getElem_toArray, List.getElem_cons_zero, List.getElem_cons_succ, List.setIfInBounds_toArray, List.set_cons_zero, List.set_cons_succ]
                      refine wpAnyH_take (i := 4) (v := .int .i64 y.1.o) rfl (by kernel_rfl) (by kernel_rfl) (by kernel_rfl) (fun _ _ _ h => nomatch h.1) (.inl ⟨by rfl, fun V hV => by have cq5 : V.cell? ⟨w4.heap.size, 1, none⟩ = some (.int .i64 y.1.o) := hV; go_simp⟩) J ?_
                      try simp only [Act.put, List.getElem_toArray, List.getElem_cons_zero, List.getElem_cons_succ, List.setIfInBounds_toArray, List.set_cons_zero, List.set_cons_succ]
                      refine wpAnyH_ready (rs := [1, 7]) (by kernel_rfl) (by simp) ?_
                      refine AllReadyH.cons rfl (fun K hK => ?_) (AllReadyH.cons rfl (fun K hK => ?_) AllReadyH.nil)
                      · try simp only [Act.put, List.getElem_toArray, List.getElem_cons_zero, List.getElem_cons_succ, List.setIfInBounds_toArray, List.set_cons_zero, List.set_cons_succ]
                        have qa := k3.cell 1
                        change _ = some (Value.slice A2 m2 c2) at qa
                        go_simp
                        clear qa
                        refine hK.out _ _ J (fun _ => ?_)
                        clear hK K
                        try simp only [Act.put, List.getElem_toArray, List.getElem_cons_zero, List.getElem_cons_succ, List.setIfInBounds_toArray, List.set_cons_zero, List.set_cons_succ]
                        refine wpAnyH_ready (rs := [7]) (by kernel_rfl) (by simp) ?_
                        refine AllReadyH.cons rfl (fun K hK => ?_) AllReadyH.nil
                        try simp only [Act.put, List.getElem_toArray, List.getElem_cons_zero, List.getElem_cons_succ, List.setIfInBounds_toArray, List.set_cons_zero, List.set_cons_succ]
                        go_simp
                        have kn := Blk.new Wc #[.int .i64 id] 3
                        have bb : Below Wc.heap.size Wc (Wc.alloc (.cells #[.int .i64 id] 3)) := (Below.refl _ _).alloc (Nat.le_refl _) _
                        show K _ (Wc.alloc (.cells #[.int .i64 id] 3))
                        obtain ⟨gn, egn⟩ : ∃ g, g = Wc.heap.size := ⟨_, rfl⟩
                        rw [← egn] at kn ⊢
                        clear egn
                        have zq := zq.below bb (Nat.le_refl _)
                        have bb := bb.mono hsz
                        have J : (fun V : World => V.cell? ⟨w4.heap.size, 1, none⟩ = some (.int .i64 y.1.o)) _ := (bb.cell (p := ⟨w4.heap.size, 1, none⟩) h11).trans J
                        have k3 := k3.below bb h3b
                        have k6 := k6.below bb h6b
                        have Bc := Bc.trans (bb.mono hwb)
                        have hsz := Nat.le_trans hsz bb.size
                        clear bb
                        generalize Wc.alloc (.cells #[.int .i64 id] 3) = Wc at J k3 k6 Bc hsz zq kn ⊢
                        refine hK.out _ _ J (fun _ => ?_)
                        clear hK K
                        try simp only [Act.put, List.getElem_toArray, List.getElem_cons_zero, List.getElem_cons_succ, List.setIfInBounds_toArray, List.set_cons_zero, List.set_cons_succ]
                        refine wpAnyH_ready (rs := [8]) (by kernel_rfl) (by simp) ?_
                        refine AllReadyH.cons rfl (fun K hK => ?_) AllReadyH.nil
                        try simp only [Act.put, List.getElem_toArray, List.getElem_cons_zero, List.getElem_cons_succ, List.setIfInBounds_toArray, List.set_cons_zero, List.set_cons_succ]
                        obtain ⟨A8, c8, Wc, hrun, zq8, hgr8, bb8, _⟩ := run_app1Zq 40 wb.heap.size QA qm qc y.1.q zq id gn kn (by omega) hsz
                        refine wp_op_app (.tmp 86) (.tmp 88) rfl rfl rfl hrun ?_
                        have J : (fun V : World => V.cell? ⟨w4.heap.size, 1, none⟩ = some (.int .i64 y.1.o)) _ := (bb8.cell (p := ⟨w4.heap.size, 1, none⟩) h11).trans J
                        have k3 := k3.below bb8 h3b
                        have k6 := k6.below bb8 h6b
                        have Bc := Bc.trans (bb8.mono hwb)
                        have hsz := Nat.le_trans hsz bb8.size
                        clear hrun hgr8 bb8 zq kn
                        refine hK.out _ _ J (fun _ => ?_)
                        clear hK K
                        try simp only [Act.put, List.getElem_toArray, List.getElem_cons_zero, List.getElem_cons_succ, List.setIfInBounds_toArray, List.set_cons_zero, List.set_cons_succ]
                        refine wpAnyH_take (i := 9) (v := .agg #[.int .i64 n, .int .i64 y.1.o, .slice A8 (qm + 1) c8]) rfl (by kernel_rfl) (by kernel_rfl) (by kernel_rfl) (fun _ _ _ h => nomatch h.1) (.inl ⟨by rfl, fun V hV => by go_simp⟩) J ?_
                        try simp only [Act.put, List.getElem_toArray, List.getElem_cons_zero, List.getElem_cons_succ, List.setIfInBounds_toArray, List.set_cons_zero, List.set_cons_succ]
                        refine wpAnyH_ready (rs := [10]) (by kernel_rfl) (by simp) ?_
                        refine AllReadyH.cons rfl (fun K hK => ?_) AllReadyH.nil
                        try simp only [Act.put, List.getElem_toArray, List.getElem_cons_zero, List.getElem_cons_succ, List.setIfInBounds_toArray, List.set_cons_zero, List.set_cons_succ]
                        go_simp
                        have HPU := Lib.hid (put_K A2 m2 c2 L (⟨n, y.1.o, y.1.q ++ [id]⟩, (A8, c8)) Wc ((HS.out.ks.below Bc (Nat.le_refl _)).more Bc.size) HS.out.len2 hm2q)
                        have hkc : kwC ((⟨n, y.1.o, y.1.q ++ [id]⟩, (A8, c8)) : Kw) = #[.int .i64 n, .int .i64 y.1.o, .slice A8 (qm + 1) c8] := by have := zq8.len; show #[_, _, Value.slice A8 (y.1.q ++ [id]).length c8] = _; rw [← this]
                        rw [hkc] at HPU
                        clear hkc
                        refine HPU.out.mono ?_
                        clear HPU
                        rintro e Wc ⟨G, gm, gc, rfl, rg, bb⟩
                        go_wp2_with fail
                        have rg := rg.down Bc.size
                        have zq8 := zq8.below bb (Nat.le_refl _)
                        have bb := bb.mono hsz
                        have J : (fun V : World => V.cell? ⟨w4.heap.size, 1, none⟩ = some (.int .i64 y.1.o)) _ := (bb.cell (p := ⟨w4.heap.size, 1, none⟩) h11).trans J
                        have k3 := k3.below bb h3b
                        have k6 := k6.below bb h6b
                        have Bc := Bc.trans (bb.mono hwb)
                        have hsz := Nat.le_trans hsz bb.size
                        clear bb
                        refine hK.out _ _ J (fun _ => ?_)
                        clear hK K
                        try simp only [Act.put, List.getElem_toArray, List.getElem_cons_zero, List.getElem_cons_succ, List.setIfInBounds_toArray, List.set_cons_zero, List.set_cons_succ]
                        refine wpAnyH_take (i := 11) (v := .pointer (some ⟨w.heap.size, 1, none⟩)) rfl (by kernel_rfl) (by kernel_rfl) (by kernel_rfl) (fun _ _ _ h => nomatch h.1) (.inl ⟨by rfl, fun V hV => by go_simp⟩) J ?_
                        try simp only [Act.put, List.getElem_toArray, List.getElem_cons_zero, List.getElem_cons_succ, List.setIfInBounds_toArray, List.set_cons_zero, List.set_cons_succ]
                        refine wpAnyH_ready (rs := [12]) (by kernel_rfl) (by simp) ?_
                        refine AllReadyH.cons rfl (fun K hK => ?_) AllReadyH.nil
                        try simp only [Act.put, List.getElem_toArray, List.getElem_cons_zero, List.getElem_cons_succ, List.setIfInBounds_toArray, List.set_cons_zero, List.set_cons_succ]
                        have q3 : Wc.cell? ⟨w.heap.size, 1, none⟩ = some (.slice A2 m2 c2) := k3.cell 1
                        have f3 := k3.frozen 1
                        go_simp
                        clear q3 f3
                        have n7 : But w.heap.size Wc (Wc.setCell ⟨w.heap.size, 1, none⟩ (.slice G gm gc)) := (But.refl w.heap.size Wc).setCell (p := ⟨w.heap.size, 1, none⟩) (.inl rfl) _
                        have k37 : Blk (Wc.setCell ⟨w.heap.size, 1, none⟩ (.slice G gm gc)) w.heap.size (scC A m c G gm gc) 25 := k3.set_ 1 _
                        have k67 := n7.blk7 k6 (by omega)
                        have rg7 : RoK _ w.heap.size G gm gc _ := own_kind rg (grown_but n7) (fun g' e => by cases e; exact ⟨_, _, k3, by decide⟩)
                        have zq9 : Zo _ wb.heap.size A8 (qm + 1) c8 (y.1.q ++ [id]) := own_kind zq8 (grown_but n7) (fun g' e => by cases e; exact ⟨_, _, k3, by decide⟩)
                        have B7 := Bc.trans (n7.below _ (Nat.le_refl _) Bc.size)
                        have J : (fun V : World => V.cell? ⟨w4.heap.size, 1, none⟩ = some (.int .i64 y.1.o)) (Wc.setCell ⟨w.heap.size, 1, none⟩ (.slice G gm gc)) := cell_but n7 J (by show w4.heap.size ≠ _; omega)
                        have hs7 := Nat.le_trans hsz n7.size
                        clear n7 k3 k6 rg zq8 Bc hsz
                        generalize Wc.setCell ⟨w.heap.size, 1, none⟩ (.slice G gm gc) = w7 at J k37 k67 rg7 zq9 B7 hs7 ⊢
                        refine hK.out _ _ J (fun _ => ?_)
                        clear hK K
                        try simp only [Act.put, List.getElem_toArray, List.getElem_cons_zero, List.getElem_cons_succ, List.setIfInBounds_toArray, List.set_cons_zero, List.set_cons_succ]
                        refine wpAnyH_done (by kernel_rfl) ?_ _
                        refine ⟨rfl, ?_⟩
                        clear J
                        have HPR := Lib.hid (put_R A m c R ⟨id, 1, n⟩ w7 ((HS.out.rs.below B7 (Nat.le_refl _)).more B7.size) HS.out.len (by have := (HSM.out (by trivial)).1; omega))
                        have q7 : w7.cell? ⟨w.heap.size, 0, none⟩ = some (.slice A m c) := k37.cell 0
                        go_wp2_with (first
                          | (refine HPR.out.mono ?_
                             clear HPR
                             rintro e w8 ⟨G2, gm2, gc2, rfl, rr, bb⟩
                             have k38 := k37.below bb k37.lt
                             have k68 := k67.below bb k67.lt
                             have rg8 := rg7.below bb (Nat.le_refl _)
                             have zq10 := zq9.below bb (Nat.le_refl _)
                             have rr := rr.down B7.size
                             have B8 := B7.trans (bb.mono B7.size)
                             have q8_ : w8.cell? ⟨w.heap.size, 0, none⟩ = some (.slice A m c) := k38.cell 0
                             have f8 := k38.frozen 0
                             have n9 : But w.heap.size w8 (w8.setCell ⟨w.heap.size, 0, none⟩ (.slice G2 gm2 gc2)) := (But.refl w.heap.size w8).setCell (p := ⟨w.heap.size, 0, none⟩) (.inl rfl) _
                             have k39 : Blk (w8.setCell ⟨w.heap.size, 0, none⟩ (.slice G2 gm2 gc2)) w.heap.size (scC G2 gm2 gc2 G gm gc) 25 := k38.set_ 0 _
                             have k69 := n9.blk7 k68 (by omega)
                             have rr9 : RoR _ w.heap.size G2 gm2 gc2 _ := own_kind rr (grown_but n9) (fun g' e => by cases e; exact ⟨_, _, k38, by decide⟩)
                             have rg9 : RoK _ w.heap.size G gm gc _ := own_kind rg8 (grown_but n9) (fun g' e => by cases e; exact ⟨_, _, k38, by decide⟩)
                             have zq11 : Zo _ wb.heap.size A8 (qm + 1) c8 (y.1.q ++ [id]) := own_kind zq10 (grown_but n9) (fun g' e => by cases e; exact ⟨_, _, k38, by decide⟩)
                             have B9 := B8.trans (n9.below _ (Nat.le_refl _) B8.size)
                             have HZ := Lib.hid (And.intro k69 (And.intro rr9 (And.intro rg9 (And.intro zq11 B9))))
                             clear bb k37 k67 rg7 zq9 B7 k68 rg8 zq10 rr B8 n9 k69 rr9 rg9 zq11 B9 q7)
                          | (refine wpList_load_row rfl 25 (.tmp 3) rfl w.heap.size rfl 25 (scC G2 gm2 gc2 G gm gc) (0, 0) _ k39.blk Try.underlying25 rfl (sc_inf _ _ _ _ _ _) ?_)
                          | (refine wpList_store_blk rfl 25 (.tmp 6) (.tmp 100) rfl (w.heap.size + 1) (scC none 0 0 none 0 0) (scC G2 gm2 gc2 G gm gc) 25 rfl rfl HZ.out.1 rfl (sc_inf _ _ _ _ _ _) (sc_one _ _ _ _ _ _) ?_
                             intro wz hz nz))
                        have hzz := HZ.out
                        have kd := fun {e : TypeId} (he : 25 ≠ e) (g' : Nat) (e1 : some (w.heap.size + 1) = some g') => (show ∃ cs t, Blk _ g' cs t ∧ t ≠ e by cases e1; exact ⟨_, _, hzz.1, he⟩)
                        have rrz : RoR wz w.heap.size G2 gm2 gc2 (putG numR (⟨id, 1, n⟩ : Rn) false R) := own_kind hzz.2.1 (grown_but nz) (fun g' e => kd (by decide) g' e)
                        have rgz : RoK wz w.heap.size G gm gc (putG numK ((⟨n, y.1.o, y.1.q ++ [id]⟩, (A8, c8)) : Kw) (y.1.o == 0) L) := own_kind hzz.2.2.1 (grown_but nz) (fun g' e => kd (by decide) g' e)
                        have zqz : Zo wz wb.heap.size A8 (qm + 1) c8 (y.1.q ++ [id]) := own_kind hzz.2.2.2.1 (grown_but nz) (fun g' e => kd (by decide) g' e)
                        have Bz := hzz.2.2.2.2.trans (nz.below _ (by omega) hzz.2.2.2.2.size)
                        have hsz := HS.out.on Bz
                        have rgl := rgz.len
                        have rrl := rrz.len
                        have hgm : gm ≤ L.length + 1 := by rw [rgl]; exact Nat.le_trans (putG_len numK _ L _) (by split <;> omega)
                        have hgr : gm2 ≤ R.length + 1 := by rw [rrl]; exact Nat.le_trans (putG_len numR _ R _) (by split <;> omega)
                        have zl := zqz.len
                        refine bodyPost_ret (results_row_tmpQ rfl _ _ (w.heap.size + 1) 25 (scC G2 gm2 gc2 G gm gc) _ rfl hz Try.underlying25 rfl (sc_inf _ _ _ _ _ _) _ _ rfl rfl) rfl ?_
                        exact ⟨_, by rw [HR.out]; rfl, by rw [HR.out]; exact ⟨G2, gm2, gc2, G, gm, gc, _, rfl, ⟨rrz.rs, rgz.rs, fun z hz9 => (by
                            rcases putG_mem numK _ hz9 with rfl | hz9
                            · have hcp := zqz.cap
                              exact ⟨zqz.ri, by show (y.1.q ++ [id]).length ≤ c8; omega, by show (y.1.q ++ [id]).length ≤ 1000000; omega⟩
                            · exact hsz.q z hz9), rrl, rgl, by have := HS.out.len; have := (HSM.out (by trivial)).1; omega, by have := HS.out.len2; have := (HSM.out (by trivial)).2; omega⟩, putG_map numK (·.n) (·.1) (fun _ => rfl) _ L (y.1.o == 0)⟩, Bz⟩
                      · try simp only [Act.put, List.getElem_toArray, List.getElem_cons_zero, List.getElem_cons_succ, List.setIfInBounds_toArray, List.set_cons_zero, List.set_cons_succ]
                        go_simp
                        have kn := Blk.new Wc #[.int .i64 id] 3
                        have bb : Below Wc.heap.size Wc (Wc.alloc (.cells #[.int .i64 id] 3)) := (Below.refl _ _).alloc (Nat.le_refl _) _
                        show K _ (Wc.alloc (.cells #[.int .i64 id] 3))
                        obtain ⟨gn, egn⟩ : ∃ g, g = Wc.heap.size := ⟨_, rfl⟩
                        rw [← egn] at kn ⊢
                        clear egn
                        have zq := zq.below bb (Nat.le_refl _)
                        have bb := bb.mono hsz
                        have J : (fun V : World => V.cell? ⟨w4.heap.size, 1, none⟩ = some (.int .i64 y.1.o)) _ := (bb.cell (p := ⟨w4.heap.size, 1, none⟩) h11).trans J
                        have k3 := k3.below bb h3b
                        have k6 := k6.below bb h6b
                        have Bc := Bc.trans (bb.mono hwb)
                        have hsz := Nat.le_trans hsz bb.size
                        clear bb
                        generalize Wc.alloc (.cells #[.int .i64 id] 3) = Wc at J k3 k6 Bc hsz zq kn ⊢
                        refine hK.out _ _ J (fun _ => ?_)
                        clear hK K
                        try simp only [Act.put, List.getElem_toArray, List.getElem_cons_zero, List.getElem_cons_succ, List.setIfInBounds_toArray, List.set_cons_zero, List.set_cons_succ]
                        refine wpAnyH_ready (rs := [1, 8]) (by kernel_rfl) (by simp) ?_
                        refine AllReadyH.cons rfl (fun K hK => ?_) (AllReadyH.cons rfl (fun K hK => ?_) AllReadyH.nil)
                        · try simp only [Act.put, List.getElem_toArray, List.getElem_cons_zero, List.getElem_cons_succ, List.setIfInBounds_toArray, List.set_cons_zero, List.set_cons_succ]
                          have qa := k3.cell 1
                          change _ = some (Value.slice A2 m2 c2) at qa
                          go_simp
                          clear qa
                          refine hK.out _ _ J (fun _ => ?_)
                          clear hK K
                          try simp only [Act.put, List.getElem_toArray, List.getElem_cons_zero, List.getElem_cons_succ, List.setIfInBounds_toArray, List.set_cons_zero, List.set_cons_succ]
                          refine wpAnyH_ready (rs := [8]) (by kernel_rfl) (by simp) ?_
                          refine AllReadyH.cons rfl (fun K hK => ?_) AllReadyH.nil
                          try simp only [Act.put, List.getElem_toArray, List.getElem_cons_zero, List.getElem_cons_succ, List.setIfInBounds_toArray, List.set_cons_zero, List.set_cons_succ]
                          obtain ⟨A8, c8, Wc, hrun, zq8, hgr8, bb8, _⟩ := run_app1Zq 40 wb.heap.size QA qm qc y.1.q zq id gn kn (by omega) hsz
                          refine wp_op_app (.tmp 86) (.tmp 88) rfl rfl rfl hrun ?_
                          have J : (fun V : World => V.cell? ⟨w4.heap.size, 1, none⟩ = some (.int .i64 y.1.o)) _ := (bb8.cell (p := ⟨w4.heap.size, 1, none⟩) h11).trans J
                          have k3 := k3.below bb8 h3b
                          have k6 := k6.below bb8 h6b
                          have Bc := Bc.trans (bb8.mono hwb)
                          have hsz := Nat.le_trans hsz bb8.size
                          clear hrun hgr8 bb8 zq kn
                          refine hK.out _ _ J (fun _ => ?_)
                          clear hK K
                          try simp only [Act.put, List.getElem_toArray, List.getElem_cons_zero, List.getElem_cons_succ, List.setIfInBounds_toArray, List.set_cons_zero, List.set_cons_succ]
                          refine wpAnyH_take (i := 9) (v := .agg #[.int .i64 n, .int .i64 y.1.o, .slice A8 (qm + 1) c8]) rfl (by kernel_rfl) (by kernel_rfl) (by kernel_rfl) (fun _ _ _ h => nomatch h.1) (.inl ⟨by rfl, fun V hV => by go_simp⟩) J ?_
                          try simp only [Act.put, List.getElem_toArray, List.getElem_cons_zero, List.getElem_cons_succ, List.setIfInBounds_toArray, List.set_cons_zero, List.set_cons_succ]
                          refine wpAnyH_ready (rs := [10]) (by kernel_rfl) (by simp) ?_
                          refine AllReadyH.cons rfl (fun K hK => ?_) AllReadyH.nil
                          try simp only [Act.put, List.getElem_toArray, List.getElem_cons_zero, List.getElem_cons_succ, List.setIfInBounds_toArray, List.set_cons_zero, List.set_cons_succ]
                          go_simp
                          have HPU := Lib.hid (put_K A2 m2 c2 L (⟨n, y.1.o, y.1.q ++ [id]⟩, (A8, c8)) Wc ((HS.out.ks.below Bc (Nat.le_refl _)).more Bc.size) HS.out.len2 hm2q)
                          have hkc : kwC ((⟨n, y.1.o, y.1.q ++ [id]⟩, (A8, c8)) : Kw) = #[.int .i64 n, .int .i64 y.1.o, .slice A8 (qm + 1) c8] := by have := zq8.len; show #[_, _, Value.slice A8 (y.1.q ++ [id]).length c8] = _; rw [← this]
                          rw [hkc] at HPU
                          clear hkc
                          refine HPU.out.mono ?_
                          clear HPU
                          rintro e Wc ⟨G, gm, gc, rfl, rg, bb⟩
                          go_wp2_with fail
                          have rg := rg.down Bc.size
                          have zq8 := zq8.below bb (Nat.le_refl _)
                          have bb := bb.mono hsz
                          have J : (fun V : World => V.cell? ⟨w4.heap.size, 1, none⟩ = some (.int .i64 y.1.o)) _ := (bb.cell (p := ⟨w4.heap.size, 1, none⟩) h11).trans J
                          have k3 := k3.below bb h3b
                          have k6 := k6.below bb h6b
                          have Bc := Bc.trans (bb.mono hwb)
                          have hsz := Nat.le_trans hsz bb.size
                          clear bb
                          refine hK.out _ _ J (fun _ => ?_)
                          clear hK K
                          try simp only [Act.put, List.getElem_toArray, List.getElem_cons_zero, List.getElem_cons_succ, List.setIfInBounds_toArray, List.set_cons_zero, List.set_cons_succ]
                          refine wpAnyH_take (i := 11) (v := .pointer (some ⟨w.heap.size, 1, none⟩)) rfl (by kernel_rfl) (by kernel_rfl) (by kernel_rfl) (fun _ _ _ h => nomatch h.1) (.inl ⟨by rfl, fun V hV => by go_simp⟩) J ?_
                          try simp only [Act.put, List.getElem_toArray, List.getElem_cons_zero, List.getElem_cons_succ, List.setIfInBounds_toArray, List.set_cons_zero, List.set_cons_succ]
                          refine wpAnyH_ready (rs := [12]) (by kernel_rfl) (by simp) ?_
                          refine AllReadyH.cons rfl (fun K hK => ?_) AllReadyH.nil
                          try simp only [Act.put, List.getElem_toArray, List.getElem_cons_zero, List.getElem_cons_succ, List.setIfInBounds_toArray, List.set_cons_zero, List.set_cons_succ]
                          have q3 : Wc.cell? ⟨w.heap.size, 1, none⟩ = some (.slice A2 m2 c2) := k3.cell 1
                          have f3 := k3.frozen 1
                          go_simp
                          clear q3 f3
                          have n7 : But w.heap.size Wc (Wc.setCell ⟨w.heap.size, 1, none⟩ (.slice G gm gc)) := (But.refl w.heap.size Wc).setCell (p := ⟨w.heap.size, 1, none⟩) (.inl rfl) _
                          have k37 : Blk (Wc.setCell ⟨w.heap.size, 1, none⟩ (.slice G gm gc)) w.heap.size (scC A m c G gm gc) 25 := k3.set_ 1 _
                          have k67 := n7.blk7 k6 (by omega)
                          have rg7 : RoK _ w.heap.size G gm gc _ := own_kind rg (grown_but n7) (fun g' e => by cases e; exact ⟨_, _, k3, by decide⟩)
                          have zq9 : Zo _ wb.heap.size A8 (qm + 1) c8 (y.1.q ++ [id]) := own_kind zq8 (grown_but n7) (fun g' e => by cases e; exact ⟨_, _, k3, by decide⟩)
                          have B7 := Bc.trans (n7.below _ (Nat.le_refl _) Bc.size)
                          have J : (fun V : World => V.cell? ⟨w4.heap.size, 1, none⟩ = some (.int .i64 y.1.o)) (Wc.setCell ⟨w.heap.size, 1, none⟩ (.slice G gm gc)) := cell_but n7 J (by show w4.heap.size ≠ _; omega)
                          have hs7 := Nat.le_trans hsz n7.size
                          clear n7 k3 k6 rg zq8 Bc hsz
                          generalize Wc.setCell ⟨w.heap.size, 1, none⟩ (.slice G gm gc) = w7 at J k37 k67 rg7 zq9 B7 hs7 ⊢
                          refine hK.out _ _ J (fun _ => ?_)
                          clear hK K
                          try simp only [Act.put, List.getElem_toArray, List.getElem_cons_zero, List.getElem_cons_succ, List.setIfInBounds_toArray, List.set_cons_zero, List.set_cons_succ]
                          refine wpAnyH_done (by kernel_rfl) ?_ _
                          refine ⟨rfl, ?_⟩
                          clear J
                          have HPR := Lib.hid (put_R A m c R ⟨id, 1, n⟩ w7 ((HS.out.rs.below B7 (Nat.le_refl _)).more B7.size) HS.out.len (by have := (HSM.out (by trivial)).1; omega))
                          have q7 : w7.cell? ⟨w.heap.size, 0, none⟩ = some (.slice A m c) := k37.cell 0
                          go_wp2_with (first
                            | (refine HPR.out.mono ?_
                               clear HPR
                               rintro e w8 ⟨G2, gm2, gc2, rfl, rr, bb⟩
                               have k38 := k37.below bb k37.lt
                               have k68 := k67.below bb k67.lt
                               have rg8 := rg7.below bb (Nat.le_refl _)
                               have zq10 := zq9.below bb (Nat.le_refl _)
                               have rr := rr.down B7.size
                               have B8 := B7.trans (bb.mono B7.size)
                               have q8_ : w8.cell? ⟨w.heap.size, 0, none⟩ = some (.slice A m c) := k38.cell 0
                               have f8 := k38.frozen 0
                               have n9 : But w.heap.size w8 (w8.setCell ⟨w.heap.size, 0, none⟩ (.slice G2 gm2 gc2)) := (But.refl w.heap.size w8).setCell (p := ⟨w.heap.size, 0, none⟩) (.inl rfl) _
                               have k39 : Blk (w8.setCell ⟨w.heap.size, 0, none⟩ (.slice G2 gm2 gc2)) w.heap.size (scC G2 gm2 gc2 G gm gc) 25 := k38.set_ 0 _
                               have k69 := n9.blk7 k68 (by omega)
                               have rr9 : RoR _ w.heap.size G2 gm2 gc2 _ := own_kind rr (grown_but n9) (fun g' e => by cases e; exact ⟨_, _, k38, by decide⟩)
                               have rg9 : RoK _ w.heap.size G gm gc _ := own_kind rg8 (grown_but n9) (fun g' e => by cases e; exact ⟨_, _, k38, by decide⟩)
                               have zq11 : Zo _ wb.heap.size A8 (qm + 1) c8 (y.1.q ++ [id]) := own_kind zq10 (grown_but n9) (fun g' e => by cases e; exact ⟨_, _, k38, by decide⟩)
                               have B9 := B8.trans (n9.below _ (Nat.le_refl _) B8.size)
                               have HZ := Lib.hid (And.intro k69 (And.intro rr9 (And.intro rg9 (And.intro zq11 B9))))
                               clear bb k37 k67 rg7 zq9 B7 k68 rg8 zq10 rr B8 n9 k69 rr9 rg9 zq11 B9 q7)
                            | (refine wpList_load_row rfl 25 (.tmp 3) rfl w.heap.size rfl 25 (scC G2 gm2 gc2 G gm gc) (0, 0) _ k39.blk Try.underlying25 rfl (sc_inf _ _ _ _ _ _) ?_)
                            | (refine wpList_store_blk rfl 25 (.tmp 6) (.tmp 100) rfl (w.heap.size + 1) (scC none 0 0 none 0 0) (scC G2 gm2 gc2 G gm gc) 25 rfl rfl HZ.out.1 rfl (sc_inf _ _ _ _ _ _) (sc_one _ _ _ _ _ _) ?_
                               intro wz hz nz))
                          have hzz := HZ.out
                          have kd := fun {e : TypeId} (he : 25 ≠ e) (g' : Nat) (e1 : some (w.heap.size + 1) = some g') => (show ∃ cs t, Blk _ g' cs t ∧ t ≠ e by cases e1; exact ⟨_, _, hzz.1, he⟩)
                          have rrz : RoR wz w.heap.size G2 gm2 gc2 (putG numR (⟨id, 1, n⟩ : Rn) false R) := own_kind hzz.2.1 (grown_but nz) (fun g' e => kd (by decide) g' e)
                          have rgz : RoK wz w.heap.size G gm gc (putG numK ((⟨n, y.1.o, y.1.q ++ [id]⟩, (A8, c8)) : Kw) (y.1.o == 0) L) := own_kind hzz.2.2.1 (grown_but nz) (fun g' e => kd (by decide) g' e)
                          have zqz : Zo wz wb.heap.size A8 (qm + 1) c8 (y.1.q ++ [id]) := own_kind hzz.2.2.2.1 (grown_but nz) (fun g' e => kd (by decide) g' e)
                          have Bz := hzz.2.2.2.2.trans (nz.below _ (by omega) hzz.2.2.2.2.size)
                          have hsz := HS.out.on Bz
                          have rgl := rgz.len
                          have rrl := rrz.len
                          have hgm : gm ≤ L.length + 1 := by rw [rgl]; exact Nat.le_trans (putG_len numK _ L _) (by split <;> omega)
                          have hgr : gm2 ≤ R.length + 1 := by rw [rrl]; exact Nat.le_trans (putG_len numR _ R _) (by split <;> omega)
                          have zl := zqz.len
                          refine bodyPost_ret (results_row_tmpQ rfl _ _ (w.heap.size + 1) 25 (scC G2 gm2 gc2 G gm gc) _ rfl hz Try.underlying25 rfl (sc_inf _ _ _ _ _ _) _ _ rfl rfl) rfl ?_
                          exact ⟨_, by rw [HR.out]; rfl, by rw [HR.out]; exact ⟨G2, gm2, gc2, G, gm, gc, _, rfl, ⟨rrz.rs, rgz.rs, fun z hz9 => (by
                              rcases putG_mem numK _ hz9 with rfl | hz9
                              · have hcp := zqz.cap
                                exact ⟨zqz.ri, by show (y.1.q ++ [id]).length ≤ c8; omega, by show (y.1.q ++ [id]).length ≤ 1000000; omega⟩
                              · exact hsz.q z hz9), rrl, rgl, by have := HS.out.len; have := (HSM.out (by trivial)).1; omega, by have := HS.out.len2; have := (HSM.out (by trivial)).2; omega⟩, putG_map numK (·.n) (·.1) (fun _ => rfl) _ L (y.1.o == 0)⟩, Bz⟩
                        · try simp only [Act.put, List.getElem_toArray, List.getElem_cons_zero, List.getElem_cons_succ, List.setIfInBounds_toArray, List.set_cons_zero, List.set_cons_succ]
                          obtain ⟨A8, c8, Wc, hrun, zq8, hgr8, bb8, _⟩ := run_app1Zq 40 wb.heap.size QA qm qc y.1.q zq id gn kn (by omega) hsz
                          refine wp_op_app (.tmp 86) (.tmp 88) rfl rfl rfl hrun ?_
                          have J : (fun V : World => V.cell? ⟨w4.heap.size, 1, none⟩ = some (.int .i64 y.1.o)) _ := (bb8.cell (p := ⟨w4.heap.size, 1, none⟩) h11).trans J
                          have k3 := k3.below bb8 h3b
                          have k6 := k6.below bb8 h6b
                          have Bc := Bc.trans (bb8.mono hwb)
                          have hsz := Nat.le_trans hsz bb8.size
                          clear hrun hgr8 bb8 zq kn
                          refine hK.out _ _ J (fun _ => ?_)
                          clear hK K
                          try simp only [Act.put, List.getElem_toArray, List.getElem_cons_zero, List.getElem_cons_succ, List.setIfInBounds_toArray, List.set_cons_zero, List.set_cons_succ]
                          refine wpAnyH_take (i := 9) (v := .agg #[.int .i64 n, .int .i64 y.1.o, .slice A8 (qm + 1) c8]) rfl (by kernel_rfl) (by kernel_rfl) (by kernel_rfl) (fun _ _ _ h => nomatch h.1) (.inl ⟨by rfl, fun V hV => by go_simp⟩) J ?_
                          try simp only [Act.put, List.getElem_toArray, List.getElem_cons_zero, List.getElem_cons_succ, List.setIfInBounds_toArray, List.set_cons_zero, List.set_cons_succ]
                          refine wpAnyH_ready (rs := [1]) (by kernel_rfl) (by simp) ?_
                          refine AllReadyH.cons rfl (fun K hK => ?_) AllReadyH.nil
                          try simp only [Act.put, List.getElem_toArray, List.getElem_cons_zero, List.getElem_cons_succ, List.setIfInBounds_toArray, List.set_cons_zero, List.set_cons_succ]
                          have qa := k3.cell 1
                          change _ = some (Value.slice A2 m2 c2) at qa
                          go_simp
                          clear qa
                          refine hK.out _ _ J (fun _ => ?_)
                          clear hK K
                          try simp only [Act.put, List.getElem_toArray, List.getElem_cons_zero, List.getElem_cons_succ, List.setIfInBounds_toArray, List.set_cons_zero, List.set_cons_succ]
                          refine wpAnyH_ready (rs := [10]) (by kernel_rfl) (by simp) ?_
                          refine AllReadyH.cons rfl (fun K hK => ?_) AllReadyH.nil
                          try simp only [Act.put, List.getElem_toArray, List.getElem_cons_zero, List.getElem_cons_succ, List.setIfInBounds_toArray, List.set_cons_zero, List.set_cons_succ]
                          go_simp
                          have HPU := Lib.hid (put_K A2 m2 c2 L (⟨n, y.1.o, y.1.q ++ [id]⟩, (A8, c8)) Wc ((HS.out.ks.below Bc (Nat.le_refl _)).more Bc.size) HS.out.len2 hm2q)
                          have hkc : kwC ((⟨n, y.1.o, y.1.q ++ [id]⟩, (A8, c8)) : Kw) = #[.int .i64 n, .int .i64 y.1.o, .slice A8 (qm + 1) c8] := by have := zq8.len; show #[_, _, Value.slice A8 (y.1.q ++ [id]).length c8] = _; rw [← this]
                          rw [hkc] at HPU
                          clear hkc
                          refine HPU.out.mono ?_
                          clear HPU
                          rintro e Wc ⟨G, gm, gc, rfl, rg, bb⟩
                          go_wp2_with fail
                          have rg := rg.down Bc.size
                          have zq8 := zq8.below bb (Nat.le_refl _)
                          have bb := bb.mono hsz
                          have J : (fun V : World => V.cell? ⟨w4.heap.size, 1, none⟩ = some (.int .i64 y.1.o)) _ := (bb.cell (p := ⟨w4.heap.size, 1, none⟩) h11).trans J
                          have k3 := k3.below bb h3b
                          have k6 := k6.below bb h6b
                          have Bc := Bc.trans (bb.mono hwb)
                          have hsz := Nat.le_trans hsz bb.size
                          clear bb
                          refine hK.out _ _ J (fun _ => ?_)
                          clear hK K
                          try simp only [Act.put, List.getElem_toArray, List.getElem_cons_zero, List.getElem_cons_succ, List.setIfInBounds_toArray, List.set_cons_zero, List.set_cons_succ]
                          refine wpAnyH_take (i := 11) (v := .pointer (some ⟨w.heap.size, 1, none⟩)) rfl (by kernel_rfl) (by kernel_rfl) (by kernel_rfl) (fun _ _ _ h => nomatch h.1) (.inl ⟨by rfl, fun V hV => by go_simp⟩) J ?_
                          try simp only [Act.put, List.getElem_toArray, List.getElem_cons_zero, List.getElem_cons_succ, List.setIfInBounds_toArray, List.set_cons_zero, List.set_cons_succ]
                          refine wpAnyH_ready (rs := [12]) (by kernel_rfl) (by simp) ?_
                          refine AllReadyH.cons rfl (fun K hK => ?_) AllReadyH.nil
                          try simp only [Act.put, List.getElem_toArray, List.getElem_cons_zero, List.getElem_cons_succ, List.setIfInBounds_toArray, List.set_cons_zero, List.set_cons_succ]
                          have q3 : Wc.cell? ⟨w.heap.size, 1, none⟩ = some (.slice A2 m2 c2) := k3.cell 1
                          have f3 := k3.frozen 1
                          go_simp
                          clear q3 f3
                          have n7 : But w.heap.size Wc (Wc.setCell ⟨w.heap.size, 1, none⟩ (.slice G gm gc)) := (But.refl w.heap.size Wc).setCell (p := ⟨w.heap.size, 1, none⟩) (.inl rfl) _
                          have k37 : Blk (Wc.setCell ⟨w.heap.size, 1, none⟩ (.slice G gm gc)) w.heap.size (scC A m c G gm gc) 25 := k3.set_ 1 _
                          have k67 := n7.blk7 k6 (by omega)
                          have rg7 : RoK _ w.heap.size G gm gc _ := own_kind rg (grown_but n7) (fun g' e => by cases e; exact ⟨_, _, k3, by decide⟩)
                          have zq9 : Zo _ wb.heap.size A8 (qm + 1) c8 (y.1.q ++ [id]) := own_kind zq8 (grown_but n7) (fun g' e => by cases e; exact ⟨_, _, k3, by decide⟩)
                          have B7 := Bc.trans (n7.below _ (Nat.le_refl _) Bc.size)
                          have J : (fun V : World => V.cell? ⟨w4.heap.size, 1, none⟩ = some (.int .i64 y.1.o)) (Wc.setCell ⟨w.heap.size, 1, none⟩ (.slice G gm gc)) := cell_but n7 J (by show w4.heap.size ≠ _; omega)
                          have hs7 := Nat.le_trans hsz n7.size
                          clear n7 k3 k6 rg zq8 Bc hsz
                          generalize Wc.setCell ⟨w.heap.size, 1, none⟩ (.slice G gm gc) = w7 at J k37 k67 rg7 zq9 B7 hs7 ⊢
                          refine hK.out _ _ J (fun _ => ?_)
                          clear hK K
                          try simp only [Act.put, List.getElem_toArray, List.getElem_cons_zero, List.getElem_cons_succ, List.setIfInBounds_toArray, List.set_cons_zero, List.set_cons_succ]
                          refine wpAnyH_done (by kernel_rfl) ?_ _
                          refine ⟨rfl, ?_⟩
                          clear J
                          have HPR := Lib.hid (put_R A m c R ⟨id, 1, n⟩ w7 ((HS.out.rs.below B7 (Nat.le_refl _)).more B7.size) HS.out.len (by have := (HSM.out (by trivial)).1; omega))
                          have q7 : w7.cell? ⟨w.heap.size, 0, none⟩ = some (.slice A m c) := k37.cell 0
                          go_wp2_with (first
                            | (refine HPR.out.mono ?_
                               clear HPR
                               rintro e w8 ⟨G2, gm2, gc2, rfl, rr, bb⟩
                               have k38 := k37.below bb k37.lt
                               have k68 := k67.below bb k67.lt
                               have rg8 := rg7.below bb (Nat.le_refl _)
                               have zq10 := zq9.below bb (Nat.le_refl _)
                               have rr := rr.down B7.size
                               have B8 := B7.trans (bb.mono B7.size)
                               have q8_ : w8.cell? ⟨w.heap.size, 0, none⟩ = some (.slice A m c) := k38.cell 0
                               have f8 := k38.frozen 0
                               have n9 : But w.heap.size w8 (w8.setCell ⟨w.heap.size, 0, none⟩ (.slice G2 gm2 gc2)) := (But.refl w.heap.size w8).setCell (p := ⟨w.heap.size, 0, none⟩) (.inl rfl) _
                               have k39 : Blk (w8.setCell ⟨w.heap.size, 0, none⟩ (.slice G2 gm2 gc2)) w.heap.size (scC G2 gm2 gc2 G gm gc) 25 := k38.set_ 0 _
                               have k69 := n9.blk7 k68 (by omega)
                               have rr9 : RoR _ w.heap.size G2 gm2 gc2 _ := own_kind rr (grown_but n9) (fun g' e => by cases e; exact ⟨_, _, k38, by decide⟩)
                               have rg9 : RoK _ w.heap.size G gm gc _ := own_kind rg8 (grown_but n9) (fun g' e => by cases e; exact ⟨_, _, k38, by decide⟩)
                               have zq11 : Zo _ wb.heap.size A8 (qm + 1) c8 (y.1.q ++ [id]) := own_kind zq10 (grown_but n9) (fun g' e => by cases e; exact ⟨_, _, k38, by decide⟩)
                               have B9 := B8.trans (n9.below _ (Nat.le_refl _) B8.size)
                               have HZ := Lib.hid (And.intro k69 (And.intro rr9 (And.intro rg9 (And.intro zq11 B9))))
                               clear bb k37 k67 rg7 zq9 B7 k68 rg8 zq10 rr B8 n9 k69 rr9 rg9 zq11 B9 q7)
                            | (refine wpList_load_row rfl 25 (.tmp 3) rfl w.heap.size rfl 25 (scC G2 gm2 gc2 G gm gc) (0, 0) _ k39.blk Try.underlying25 rfl (sc_inf _ _ _ _ _ _) ?_)
                            | (refine wpList_store_blk rfl 25 (.tmp 6) (.tmp 100) rfl (w.heap.size + 1) (scC none 0 0 none 0 0) (scC G2 gm2 gc2 G gm gc) 25 rfl rfl HZ.out.1 rfl (sc_inf _ _ _ _ _ _) (sc_one _ _ _ _ _ _) ?_
                               intro wz hz nz))
                          have hzz := HZ.out
                          have kd := fun {e : TypeId} (he : 25 ≠ e) (g' : Nat) (e1 : some (w.heap.size + 1) = some g') => (show ∃ cs t, Blk _ g' cs t ∧ t ≠ e by cases e1; exact ⟨_, _, hzz.1, he⟩)
                          have rrz : RoR wz w.heap.size G2 gm2 gc2 (putG numR (⟨id, 1, n⟩ : Rn) false R) := own_kind hzz.2.1 (grown_but nz) (fun g' e => kd (by decide) g' e)
                          have rgz : RoK wz w.heap.size G gm gc (putG numK ((⟨n, y.1.o, y.1.q ++ [id]⟩, (A8, c8)) : Kw) (y.1.o == 0) L) := own_kind hzz.2.2.1 (grown_but nz) (fun g' e => kd (by decide) g' e)
                          have zqz : Zo wz wb.heap.size A8 (qm + 1) c8 (y.1.q ++ [id]) := own_kind hzz.2.2.2.1 (grown_but nz) (fun g' e => kd (by decide) g' e)
                          have Bz := hzz.2.2.2.2.trans (nz.below _ (by omega) hzz.2.2.2.2.size)
                          have hsz := HS.out.on Bz
                          have rgl := rgz.len
                          have rrl := rrz.len
                          have hgm : gm ≤ L.length + 1 := by rw [rgl]; exact Nat.le_trans (putG_len numK _ L _) (by split <;> omega)
                          have hgr : gm2 ≤ R.length + 1 := by rw [rrl]; exact Nat.le_trans (putG_len numR _ R _) (by split <;> omega)
                          have zl := zqz.len
                          refine bodyPost_ret (results_row_tmpQ rfl _ _ (w.heap.size + 1) 25 (scC G2 gm2 gc2 G gm gc) _ rfl hz Try.underlying25 rfl (sc_inf _ _ _ _ _ _) _ _ rfl rfl) rfl ?_
                          exact ⟨_, by rw [HR.out]; rfl, by rw [HR.out]; exact ⟨G2, gm2, gc2, G, gm, gc, _, rfl, ⟨rrz.rs, rgz.rs, fun z hz9 => (by
                              rcases putG_mem numK _ hz9 with rfl | hz9
                              · have hcp := zqz.cap
                                exact ⟨zqz.ri, by show (y.1.q ++ [id]).length ≤ c8; omega, by show (y.1.q ++ [id]).length ≤ 1000000; omega⟩
                              · exact hsz.q z hz9), rrl, rgl, by have := HS.out.len; have := (HSM.out (by trivial)).1; omega, by have := HS.out.len2; have := (HSM.out (by trivial)).2; omega⟩, putG_map numK (·.n) (·.1) (fun _ => rfl) _ L (y.1.o == 0)⟩, Bz⟩
                · have HR := Lib.hid (show r = (([], [], 231), false) by rw [HR0.out, if_pos rfl, if_pos (by rw [hs2]; rfl), if_neg (by rw [h1, h2, hs1]; simp), if_pos rfl, if_pos (by rw [h3])])
                  clear HR0
                  go_wp2_with (first
                    | (refine wpList_load_row rfl 25 (.tmp 3) rfl w.heap.size rfl 25 (scC A m c A2 m2 c2) (0, 0) _ k30.blk Try.underlying25 rfl (sc_inf _ _ _ _ _ _) ?_)
                    | (refine (HRT.out _ B0).mono ?_
                       clear HRT
                       rintro e w1 ⟨rfl, bb⟩
                       have k31 := k30.below bb k30.lt
                       have k61 := k60.below bb k60.lt
                       have B1 := B0.trans (bb.mono B0.size)
                       clear bb k30 k60 B0)
                    | (refine wpList_load_row rfl 25 (.tmp 3) rfl w.heap.size rfl 25 (scC A m c A2 m2 c2) (0, 0) _ k31.blk Try.underlying25 rfl (sc_inf _ _ _ _ _ _) ?_)
                    | (refine (HFR.out _ B1).mono ?_
                       clear HFR
                       rintro e w2 ⟨rfl, bb⟩
                       have k32 := k31.below bb k31.lt
                       have k62 := k61.below bb k61.lt
                       have B2 := B1.trans (bb.mono B1.size)
                       clear bb k31 k61 B1)
                    | (refine wpList_store_blk rfl 52 (.tmp 9) (.tmp 23) rfl w2.heap.size (rnC rn0) (rnC x) 52 rfl rfl (Blk.new _ _ _) rfl (rn_inf x) (rn_one x) ?_
                       intro w3 kb3 nb3
                       have bb : Below w2.heap.size w2 w3 := ((Below.refl _ w2).alloc (Nat.le_refl _) _).trans (nb3.below _ (Nat.le_refl _) (by simp))
                       have k33 := k32.below bb k32.lt
                       have k63 := k62.below bb k62.lt
                       have B3 := B2.trans (bb.mono B2.size)
                       have q8 : w3.cell? ⟨w2.heap.size, 1, none⟩ = some (.int .i64 x.s) := kb3.cell 1
                       clear bb nb3 kb3 k32 k62 B2)
                    | (refine wpList_load_row rfl 25 (.tmp 3) rfl w.heap.size rfl 25 (scC A m c A2 m2 c2) (0, 0) _ k33.blk Try.underlying25 rfl (sc_inf _ _ _ _ _ _) ?_)
                    | (refine (HFK.out _ B3).mono ?_
                       clear HFK
                       rintro e w4 ⟨rfl, bb⟩
                       have k34 := k33.below bb k33.lt
                       have k64 := k63.below bb k63.lt
                       have B4 := B3.trans (bb.mono B3.size)
                       clear bb k33 k63 B3)
                    | (refine wpList_store_blk rfl 48 (.tmp 11) (.tmp 49) rfl w4.heap.size (kwC kw0) (kwC y) 48 rfl rfl (Blk.new _ _ _) rfl (kw_inf y) (kw_one y) ?_
                       intro w5 kb5 nb5
                       have bb : Below w4.heap.size w4 w5 := ((Below.refl _ w4).alloc (Nat.le_refl _) _).trans (nb5.below _ (Nat.le_refl _) (by simp))
                       have k35 := k34.below bb k34.lt
                       have k65 := k64.below bb k64.lt
                       have B5 := B4.trans (bb.mono B4.size)
                       have q10 : w5.cell? ⟨w4.heap.size, 1, none⟩ = some (.int .i64 y.1.o) := kb5.cell 1
                       have k11 := kb5
                       have h4g : w.heap.size < w4.heap.size := k34.lt
                       clear bb nb5 kb5 k34 k64 B4)
                    | (refine wpList_store_blk rfl 25 (.tmp 6) (.tmp 65) rfl (w.heap.size + 1) (scC none 0 0 none 0 0) (scC none 0 0 none 0 0) 25 rfl rfl k65 rfl (sc_inf _ _ _ _ _ _) (sc_one _ _ _ _ _ _) ?_
                       intro wz hz nz
                       have Bz := B5.trans (nz.below _ (by omega) B5.size)
                       clear nz k65 k35 B5))
                  refine bodyPost_ret (results_row_tmpQ rfl _ _ (w.heap.size + 1) 25 (scC none 0 0 none 0 0) _ rfl hz Try.underlying25 rfl (sc_inf _ _ _ _ _ _) _ _ rfl rfl) rfl ?_
                  exact ⟨_, by rw [HR.out]; rfl, by rw [HR.out]; exact scQ_nil wz, Bz⟩
            · have HR := Lib.hid (show r = (([], [], 2), false) by rw [HR0.out, if_pos rfl, if_pos (by rw [hs2]; rfl), if_pos (by rw [h1, h2, hs1]; rfl)])
              clear HR0
              go_wp2_with (first
                | (refine wpList_load_row rfl 25 (.tmp 3) rfl w.heap.size rfl 25 (scC A m c A2 m2 c2) (0, 0) _ k30.blk Try.underlying25 rfl (sc_inf _ _ _ _ _ _) ?_)
                | (refine (HRT.out _ B0).mono ?_
                   clear HRT
                   rintro e w1 ⟨rfl, bb⟩
                   have k31 := k30.below bb k30.lt
                   have k61 := k60.below bb k60.lt
                   have B1 := B0.trans (bb.mono B0.size)
                   clear bb k30 k60 B0)
                | (refine wpList_load_row rfl 25 (.tmp 3) rfl w.heap.size rfl 25 (scC A m c A2 m2 c2) (0, 0) _ k31.blk Try.underlying25 rfl (sc_inf _ _ _ _ _ _) ?_)
                | (refine (HFR.out _ B1).mono ?_
                   clear HFR
                   rintro e w2 ⟨rfl, bb⟩
                   have k32 := k31.below bb k31.lt
                   have k62 := k61.below bb k61.lt
                   have B2 := B1.trans (bb.mono B1.size)
                   clear bb k31 k61 B1)
                | (refine wpList_store_blk rfl 52 (.tmp 9) (.tmp 23) rfl w2.heap.size (rnC rn0) (rnC x) 52 rfl rfl (Blk.new _ _ _) rfl (rn_inf x) (rn_one x) ?_
                   intro w3 kb3 nb3
                   have bb : Below w2.heap.size w2 w3 := ((Below.refl _ w2).alloc (Nat.le_refl _) _).trans (nb3.below _ (Nat.le_refl _) (by simp))
                   have k33 := k32.below bb k32.lt
                   have k63 := k62.below bb k62.lt
                   have B3 := B2.trans (bb.mono B2.size)
                   have q8 : w3.cell? ⟨w2.heap.size, 1, none⟩ = some (.int .i64 x.s) := kb3.cell 1
                   clear bb nb3 kb3 k32 k62 B2)
                | (refine wpList_store_blk rfl 25 (.tmp 6) (.tmp 44) rfl (w.heap.size + 1) (scC none 0 0 none 0 0) (scC none 0 0 none 0 0) 25 rfl rfl k63 rfl (sc_inf _ _ _ _ _ _) (sc_one _ _ _ _ _ _) ?_
                   intro wz hz nz
                   have Bz := B3.trans (nz.below _ (by omega) B3.size)
                   clear nz k63 k33 B3))
              refine bodyPost_ret (results_row_tmpQ rfl _ _ (w.heap.size + 1) 25 (scC none 0 0 none 0 0) _ rfl hz Try.underlying25 rfl (sc_inf _ _ _ _ _ _) _ _ rfl rfl) rfl ?_
              exact ⟨_, by rw [HR.out]; rfl, by rw [HR.out]; exact scQ_nil wz, Bz⟩
          · have HR := Lib.hid (show r = (([], [], 2), false) by rw [HR0.out, if_pos rfl, if_pos (by rw [hs2]; rfl), if_pos (by rw [h1, h2]; rfl)])
            clear HR0
            go_wp2_with (first
              | (refine wpList_load_row rfl 25 (.tmp 3) rfl w.heap.size rfl 25 (scC A m c A2 m2 c2) (0, 0) _ k30.blk Try.underlying25 rfl (sc_inf _ _ _ _ _ _) ?_)
              | (refine (HRT.out _ B0).mono ?_
                 clear HRT
                 rintro e w1 ⟨rfl, bb⟩
                 have k31 := k30.below bb k30.lt
                 have k61 := k60.below bb k60.lt
                 have B1 := B0.trans (bb.mono B0.size)
                 clear bb k30 k60 B0)
              | (refine wpList_load_row rfl 25 (.tmp 3) rfl w.heap.size rfl 25 (scC A m c A2 m2 c2) (0, 0) _ k31.blk Try.underlying25 rfl (sc_inf _ _ _ _ _ _) ?_)
              | (refine (HFR.out _ B1).mono ?_
                 clear HFR
                 rintro e w2 ⟨rfl, bb⟩
                 have k32 := k31.below bb k31.lt
                 have k62 := k61.below bb k61.lt
                 have B2 := B1.trans (bb.mono B1.size)
                 clear bb k31 k61 B1)
              | (refine wpList_store_blk rfl 52 (.tmp 9) (.tmp 23) rfl w2.heap.size (rnC rn0) (rnC x) 52 rfl rfl (Blk.new _ _ _) rfl (rn_inf x) (rn_one x) ?_
                 intro w3 kb3 nb3
                 have bb : Below w2.heap.size w2 w3 := ((Below.refl _ w2).alloc (Nat.le_refl _) _).trans (nb3.below _ (Nat.le_refl _) (by simp))
                 have k33 := k32.below bb k32.lt
                 have k63 := k62.below bb k62.lt
                 have B3 := B2.trans (bb.mono B2.size)
                 have q8 : w3.cell? ⟨w2.heap.size, 1, none⟩ = some (.int .i64 x.s) := kb3.cell 1
                 clear bb nb3 kb3 k32 k62 B2)
              | (refine wpList_store_blk rfl 25 (.tmp 6) (.tmp 44) rfl (w.heap.size + 1) (scC none 0 0 none 0 0) (scC none 0 0 none 0 0) 25 rfl rfl k63 rfl (sc_inf _ _ _ _ _ _) (sc_one _ _ _ _ _ _) ?_
                 intro wz hz nz
                 have Bz := B3.trans (nz.below _ (by omega) B3.size)
                 clear nz k63 k33 B3))
            refine bodyPost_ret (results_row_tmpQ rfl _ _ (w.heap.size + 1) 25 (scC none 0 0 none 0 0) _ rfl hz Try.underlying25 rfl (sc_inf _ _ _ _ _ _) _ _ rfl rfl) rfl ?_
            exact ⟨_, by rw [HR.out]; rfl, by rw [HR.out]; exact scQ_nil wz, Bz⟩
        · have HR := Lib.hid (show r = (([], [], 2), false) by rw [HR0.out, if_pos rfl, if_pos (by rw [hs2]; rfl), if_pos (by rw [h1]; rfl)])
          clear HR0
          go_wp2_with (first
            | (refine wpList_load_row rfl 25 (.tmp 3) rfl w.heap.size rfl 25 (scC A m c A2 m2 c2) (0, 0) _ k30.blk Try.underlying25 rfl (sc_inf _ _ _ _ _ _) ?_)
            | (refine (HRT.out _ B0).mono ?_
               clear HRT
               rintro e w1 ⟨rfl, bb⟩
               have k31 := k30.below bb k30.lt
               have k61 := k60.below bb k60.lt
               have B1 := B0.trans (bb.mono B0.size)
               clear bb k30 k60 B0)
            | (refine wpList_load_row rfl 25 (.tmp 3) rfl w.heap.size rfl 25 (scC A m c A2 m2 c2) (0, 0) _ k31.blk Try.underlying25 rfl (sc_inf _ _ _ _ _ _) ?_)
            | (refine (HFR.out _ B1).mono ?_
               clear HFR
               rintro e w2 ⟨rfl, bb⟩
               have k32 := k31.below bb k31.lt
               have k62 := k61.below bb k61.lt
               have B2 := B1.trans (bb.mono B1.size)
               clear bb k31 k61 B1)
            | (refine wpList_store_blk rfl 52 (.tmp 9) (.tmp 23) rfl w2.heap.size (rnC rn0) (rnC x) 52 rfl rfl (Blk.new _ _ _) rfl (rn_inf x) (rn_one x) ?_
               intro w3 kb3 nb3
               have bb : Below w2.heap.size w2 w3 := ((Below.refl _ w2).alloc (Nat.le_refl _) _).trans (nb3.below _ (Nat.le_refl _) (by simp))
               have k33 := k32.below bb k32.lt
               have k63 := k62.below bb k62.lt
               have B3 := B2.trans (bb.mono B2.size)
               have q8 : w3.cell? ⟨w2.heap.size, 1, none⟩ = some (.int .i64 x.s) := kb3.cell 1
               clear bb nb3 kb3 k32 k62 B2)
            | (refine wpList_store_blk rfl 25 (.tmp 6) (.tmp 44) rfl (w.heap.size + 1) (scC none 0 0 none 0 0) (scC none 0 0 none 0 0) 25 rfl rfl k63 rfl (sc_inf _ _ _ _ _ _) (sc_one _ _ _ _ _ _) ?_
               intro wz hz nz
               have Bz := B3.trans (nz.below _ (by omega) B3.size)
               clear nz k63 k33 B3))
          refine bodyPost_ret (results_row_tmpQ rfl _ _ (w.heap.size + 1) 25 (scC none 0 0 none 0 0) _ rfl hz Try.underlying25 rfl (sc_inf _ _ _ _ _ _) _ _ rfl rfl) rfl ?_
          exact ⟨_, by rw [HR.out]; rfl, by rw [HR.out]; exact scQ_nil wz, Bz⟩
      · have HR := Lib.hid (show r = (([], [], 4), false) by rw [HR0.out, if_pos rfl, if_neg (by rw [hs2]; simp)])
        clear HR0
        go_wp2_with (first
          | (refine wpList_load_row rfl 25 (.tmp 3) rfl w.heap.size rfl 25 (scC A m c A2 m2 c2) (0, 0) _ k30.blk Try.underlying25 rfl (sc_inf _ _ _ _ _ _) ?_)
          | (refine (HRT.out _ B0).mono ?_
             clear HRT
             rintro e w1 ⟨rfl, bb⟩
             have k31 := k30.below bb k30.lt
             have k61 := k60.below bb k60.lt
             have B1 := B0.trans (bb.mono B0.size)
             clear bb k30 k60 B0)
          | (refine wpList_load_row rfl 25 (.tmp 3) rfl w.heap.size rfl 25 (scC A m c A2 m2 c2) (0, 0) _ k31.blk Try.underlying25 rfl (sc_inf _ _ _ _ _ _) ?_)
          | (refine (HFR.out _ B1).mono ?_
             clear HFR
             rintro e w2 ⟨rfl, bb⟩
             have k32 := k31.below bb k31.lt
             have k62 := k61.below bb k61.lt
             have B2 := B1.trans (bb.mono B1.size)
             clear bb k31 k61 B1)
          | (refine wpList_store_blk rfl 52 (.tmp 9) (.tmp 23) rfl w2.heap.size (rnC rn0) (rnC x) 52 rfl rfl (Blk.new _ _ _) rfl (rn_inf x) (rn_one x) ?_
             intro w3 kb3 nb3
             have bb : Below w2.heap.size w2 w3 := ((Below.refl _ w2).alloc (Nat.le_refl _) _).trans (nb3.below _ (Nat.le_refl _) (by simp))
             have k33 := k32.below bb k32.lt
             have k63 := k62.below bb k62.lt
             have B3 := B2.trans (bb.mono B2.size)
             have q8 : w3.cell? ⟨w2.heap.size, 1, none⟩ = some (.int .i64 x.s) := kb3.cell 1
             clear bb nb3 kb3 k32 k62 B2)
          | (refine wpList_store_blk rfl 25 (.tmp 6) (.tmp 32) rfl (w.heap.size + 1) (scC none 0 0 none 0 0) (scC none 0 0 none 0 0) 25 rfl rfl k63 rfl (sc_inf _ _ _ _ _ _) (sc_one _ _ _ _ _ _) ?_
             intro wz hz nz
             have Bz := B3.trans (nz.below _ (by omega) B3.size)
             clear nz k63 k33 B3))
        refine bodyPost_ret (results_row_tmpQ rfl _ _ (w.heap.size + 1) 25 (scC none 0 0 none 0 0) _ rfl hz Try.underlying25 rfl (sc_inf _ _ _ _ _ _) _ _ rfl rfl) rfl ?_
        exact ⟨_, by rw [HR.out]; rfl, by rw [HR.out]; exact scQ_nil wz, Bz⟩
end Go.Proofs.Ytfohifnbohdbcaa
