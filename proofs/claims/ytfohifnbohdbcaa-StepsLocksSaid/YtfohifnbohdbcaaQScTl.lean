/-
  The walk of StepsTells.
-/
import Derived.Test.YtfohifnbohdbcaaQScPs
import Derived.Test.YtfohifnbohdbcaaQScEq
import Derived.Test.YtfohifnbohdbcaaQScGj
import Derived.Test.YtfohifnbohdbcaaQScLc
import Derived.Test.YtfohifnbohdbcaaQScSm
import Derived.Test.YtfohifnbohdbcaaQScOv
import Derived.Test.YtfohifnbohdbcaaQScRs
import Derived.Test.YtfohifnbohdbcaaQScRf
import Derived.Deep.CutRange
import Derived.Deep.CutBlock
namespace Go.Proofs.Ytfohifnbohdbcaa
open Go.RowKit Go.Shelf
set_option linter.unusedVariables false
set_option linter.unusedSimpArgs false
def giveW (R : List Rn) (L : List Kw) (id n : Int) : List Rn × List Kn × Int :=
  if schB R L = true then (if ((fndR R id).2 && !((fndR R id).1.s == 2)) = true then (if (decide (n < 1) || decide (40 < n)) = true then ([], [], 2) else if ((fndK L n).2 && ((fndK L n).1.1.o == id)) = true then ((passN R (L.map (·.1)) n).1, (passN R (L.map (·.1)) n).2, 0) else ([], [], 231)) else ([], [], 4)) else ([], [], 230)
theorem scQ_nil (w : World) : ScQ w (scV none 0 0 none 0 0) ([], []) := ⟨none, 0, 0, none, 0, 0, [], rfl, sc_nil _ _ _ _ _ _, rfl⟩
set_option maxRecDepth 100000 in
set_option maxHeartbeats 8000000 in
theorem rgive_sc (A : Option Addr) (m c : Nat) (R : List Rn) (A2 : Option Addr) (m2 c2 : Nat) (L : List Kw) (id n : Int) (w : World) (h : Sc w w.heap.size A m c R A2 m2 c2 L) :
    Calls Try.prog 21 #[scV A m c A2 m2 c2, .int .i64 id, .int .i64 n] w fun e w' => ∃ v, e = .returned (.tuple #[v, .int .i64 (giveW R L id n).2.2]) ∧ ScQ w' v ((giveW R L id n).1, (giveW R L id n).2.1) ∧ Below w.heap.size w w' := by
  have k30 := (Blk.new w (scC A m c A2 m2 c2) 25).alloc (.cells #[.slice none 0 0, .slice none 0 0] 25)
  have k60 : Blk ((w.alloc (.cells (scC A m c A2 m2 c2) 25)).alloc (.cells #[.slice none 0 0, .slice none 0 0] 25)) (w.heap.size + 1) (scC none 0 0 none 0 0) 25 := Blk.new_ _ _ _ (by simp)
  have B0 := ((Below.refl w.heap.size w).alloc (Nat.le_refl _) (.cells (scC A m c A2 m2 c2) 25)).alloc (by simp) (.cells #[.slice none 0 0, .slice none 0 0] 25)
  have HS := Lib.hid h
  have HRT := Lib.hid (fun (V : World) (hV : Below w.heap.size w V) => right_sc A m c R A2 m2 c2 L V (h.on hV))
  have HFR := Lib.hid (fun (V : World) (hV : Below w.heap.size w V) => find_R A m c R A2 m2 c2 L id V (h.on hV))
  have HFK := Lib.hid (fun (V : World) (hV : Below w.heap.size w V) => find_K A m c R A2 m2 c2 L n V (h.on hV))
  rw [right_eq] at HRT
  have HSM := Lib.hid (fun (hs : schB R L = true) => (show m ≤ 8 ∧ m2 ≤ 40 from ⟨by have := (okd_of h (by unfold scE; rw [if_pos hs])).r; have := h.len; omega, by have := (schB_small hs).1; have := h.len2; omega⟩))
  obtain ⟨r, hr⟩ : ∃ r, giveW R L id n = r := ⟨_, rfl⟩
  rw [hr]
  unfold giveW at hr
  obtain ⟨⟨x, xb⟩, hx⟩ : ∃ p, fndR R id = p := ⟨_, rfl⟩
  obtain ⟨⟨y, yb⟩, hy⟩ : ∃ p, fndK L n = p := ⟨_, rfl⟩
  rw [hx] at HFR hr
  rw [hy] at HFK hr
  generalize schB R L = sB at HRT HSM hr
  have HR0 := Lib.hid hr.symm
  clear hr hx hy h
  simp only at HR0
  unfold scV kwV at HFK
  unfold scV rnV at HFR
  unfold scV at HRT
  go_enter Try.func21, Try.ntmps21
  cases sB
  · have HR := Lib.hid (show r = ([], [], 230) by rw [HR0.out, if_neg (by simp)])
    clear HR0
    go_wp2_with (first
      | (refine wpList_load_row rfl 25 (.tmp 3) rfl w.heap.size rfl 25 (scC A m c A2 m2 c2) (0, 0) _ k30.blk Try.underlying25 rfl (sc_inf _ _ _ _ _ _) ?_)
      | (refine (HRT.out _ B0).mono ?_
         clear HRT
         rintro e w1 ⟨rfl, bb⟩
         have k31 := k30.below bb k30.lt
         have k61 := k60.below bb k60.lt
         have B1 := B0.trans (bb.mono B0.size)
         clear bb k30 k60 B0)
      | (refine wpList_store_blk rfl 25 (.tmp 6) (.tmp 15) rfl (w.heap.size + 1) (scC none 0 0 none 0 0) (scC none 0 0 none 0 0) 25 rfl rfl k61 rfl (sc_inf _ _ _ _ _ _) (sc_one _ _ _ _ _ _) ?_
         intro wz hz nz
         have Bz := B1.trans (nz.below _ (by omega) B1.size)
         clear nz k61 k31 B1))
    refine bodyPost_ret (results_row_tmp rfl _ _ (w.heap.size + 1) 25 (scC none 0 0 none 0 0) (0, 0) _ rfl hz.blk Try.underlying25 rfl (sc_inf _ _ _ _ _ _) _ rfl) rfl ?_
    exact ⟨_, by rw [HR.out]; rfl, by rw [HR.out]; exact scQ_nil wz, Bz⟩
  · cases xb
    · have HR := Lib.hid (show r = ([], [], 4) by rw [HR0.out, if_pos rfl, if_neg (by simp)])
      clear HR0
      go_wp2_with (first
        | (refine wpList_load_row rfl 25 (.tmp 3) rfl w.heap.size rfl 25 (scC A m c A2 m2 c2) (0, 0) _ k30.blk Try.underlying25 rfl (sc_inf _ _ _ _ _ _) ?_)
        | (refine (HRT.out _ B0).mono ?_
           clear HRT
           rintro e w1 ⟨rfl, bb⟩
           have k31 := k30.below bb k30.lt
           have k61 := k60.below bb k60.lt
           have B1 := B0.trans (bb.mono B0.size)
           clear bb k30 k60 B0)
        | (refine wpList_load_row rfl 25 (.tmp 3) rfl w.heap.size rfl 25 (scC A m c A2 m2 c2) (0, 0) _ k31.blk Try.underlying25 rfl (sc_inf _ _ _ _ _ _) ?_)
        | (refine (HFR.out _ B1).mono ?_
           clear HFR
           rintro e w2 ⟨rfl, bb⟩
           have k32 := k31.below bb k31.lt
           have k62 := k61.below bb k61.lt
           have B2 := B1.trans (bb.mono B1.size)
           clear bb k31 k61 B1)
        | (refine wpList_store_blk rfl 52 (.tmp 8) (.tmp 20) rfl w2.heap.size (rnC rn0) (rnC x) 52 rfl rfl (Blk.new _ _ _) rfl (rn_inf x) (rn_one x) ?_
           intro w3 kb3 nb3
           have bb : Below w2.heap.size w2 w3 := ((Below.refl _ w2).alloc (Nat.le_refl _) _).trans (nb3.below _ (Nat.le_refl _) (by simp))
           have k33 := k32.below bb k32.lt
           have k63 := k62.below bb k62.lt
           have B3 := B2.trans (bb.mono B2.size)
           have q8 : w3.cell? ⟨w2.heap.size, 1, none⟩ = some (.int .i64 x.s) := kb3.cell 1
           clear bb nb3 kb3 k32 k62 B2)
        | (refine wpList_store_blk rfl 25 (.tmp 6) (.tmp 29) rfl (w.heap.size + 1) (scC none 0 0 none 0 0) (scC none 0 0 none 0 0) 25 rfl rfl k63 rfl (sc_inf _ _ _ _ _ _) (sc_one _ _ _ _ _ _) ?_
           intro wz hz nz
           have Bz := B3.trans (nz.below _ (by omega) B3.size)
           clear nz k63 k33 B3))
      refine bodyPost_ret (results_row_tmp rfl _ _ (w.heap.size + 1) 25 (scC none 0 0 none 0 0) (0, 0) _ rfl hz.blk Try.underlying25 rfl (sc_inf _ _ _ _ _ _) _ rfl) rfl ?_
      exact ⟨_, by rw [HR.out]; rfl, by rw [HR.out]; exact scQ_nil wz, Bz⟩
    · cases hs2 : (x.s == 2)
      · cases h1 : decide (n < 1)
        · cases h2 : decide (40 < n)
          · cases yb
            · have HR := Lib.hid (show r = ([], [], 231) by rw [HR0.out, if_pos rfl, if_pos (by rw [hs2]; rfl), if_neg (by rw [h1, h2]; simp), if_neg (by simp)])
              clear HR0
              go_wp2_with (first
                | (refine wpList_load_row rfl 25 (.tmp 3) rfl w.heap.size rfl 25 (scC A m c A2 m2 c2) (0, 0) _ k30.blk Try.underlying25 rfl (sc_inf _ _ _ _ _ _) ?_)
                | (refine (HRT.out _ B0).mono ?_
                   clear HRT
                   rintro e w1 ⟨rfl, bb⟩
                   have k31 := k30.below bb k30.lt
                   have k61 := k60.below bb k60.lt
                   have B1 := B0.trans (bb.mono B0.size)
                   clear bb k30 k60 B0)
                | (refine wpList_load_row rfl 25 (.tmp 3) rfl w.heap.size rfl 25 (scC A m c A2 m2 c2) (0, 0) _ k31.blk Try.underlying25 rfl (sc_inf _ _ _ _ _ _) ?_)
                | (refine (HFR.out _ B1).mono ?_
                   clear HFR
                   rintro e w2 ⟨rfl, bb⟩
                   have k32 := k31.below bb k31.lt
                   have k62 := k61.below bb k61.lt
                   have B2 := B1.trans (bb.mono B1.size)
                   clear bb k31 k61 B1)
                | (refine wpList_store_blk rfl 52 (.tmp 8) (.tmp 20) rfl w2.heap.size (rnC rn0) (rnC x) 52 rfl rfl (Blk.new _ _ _) rfl (rn_inf x) (rn_one x) ?_
                   intro w3 kb3 nb3
                   have bb : Below w2.heap.size w2 w3 := ((Below.refl _ w2).alloc (Nat.le_refl _) _).trans (nb3.below _ (Nat.le_refl _) (by simp))
                   have k33 := k32.below bb k32.lt
                   have k63 := k62.below bb k62.lt
                   have B3 := B2.trans (bb.mono B2.size)
                   have q8 : w3.cell? ⟨w2.heap.size, 1, none⟩ = some (.int .i64 x.s) := kb3.cell 1
                   clear bb nb3 kb3 k32 k62 B2)
                | (refine wpList_load_row rfl 25 (.tmp 3) rfl w.heap.size rfl 25 (scC A m c A2 m2 c2) (0, 0) _ k33.blk Try.underlying25 rfl (sc_inf _ _ _ _ _ _) ?_)
                | (refine (HFK.out _ B3).mono ?_
                   clear HFK
                   rintro e w4 ⟨rfl, bb⟩
                   have k34 := k33.below bb k33.lt
                   have k64 := k63.below bb k63.lt
                   have B4 := B3.trans (bb.mono B3.size)
                   clear bb k33 k63 B3)
                | (refine wpList_store_blk rfl 48 (.tmp 10) (.tmp 41) rfl w4.heap.size (kwC kw0) (kwC y) 48 rfl rfl (Blk.new _ _ _) rfl (kw_inf y) (kw_one y) ?_
                   intro w5 kb5 nb5
                   have bb : Below w4.heap.size w4 w5 := ((Below.refl _ w4).alloc (Nat.le_refl _) _).trans (nb5.below _ (Nat.le_refl _) (by simp))
                   have k35 := k34.below bb k34.lt
                   have k65 := k64.below bb k64.lt
                   have B5 := B4.trans (bb.mono B4.size)
                   have q10 : w5.cell? ⟨w4.heap.size, 1, none⟩ = some (.int .i64 y.1.o) := kb5.cell 1
                   clear bb nb5 kb5 k34 k64 B4)
                | (refine wpList_store_blk rfl 25 (.tmp 6) (.tmp 51) rfl (w.heap.size + 1) (scC none 0 0 none 0 0) (scC none 0 0 none 0 0) 25 rfl rfl k65 rfl (sc_inf _ _ _ _ _ _) (sc_one _ _ _ _ _ _) ?_
                   intro wz hz nz
                   have Bz := B5.trans (nz.below _ (by omega) B5.size)
                   clear nz k65 k35 B5))
              refine bodyPost_ret (results_row_tmp rfl _ _ (w.heap.size + 1) 25 (scC none 0 0 none 0 0) (0, 0) _ rfl hz.blk Try.underlying25 rfl (sc_inf _ _ _ _ _ _) _ rfl) rfl ?_
              exact ⟨_, by rw [HR.out]; rfl, by rw [HR.out]; exact scQ_nil wz, Bz⟩
            · cases h3 : (y.1.o == id)
              · have hne : (y.1.o != id) = true := by simpa [bne] using h3
                have HR := Lib.hid (show r = ([], [], 231) by rw [HR0.out, if_pos rfl, if_pos (by rw [hs2]; rfl), if_neg (by rw [h1, h2]; simp), if_neg (by rw [h3]; simp)])
                clear HR0
                go_wp2_with (first
                  | (refine wpList_load_row rfl 25 (.tmp 3) rfl w.heap.size rfl 25 (scC A m c A2 m2 c2) (0, 0) _ k30.blk Try.underlying25 rfl (sc_inf _ _ _ _ _ _) ?_)
                  | (refine (HRT.out _ B0).mono ?_
                     clear HRT
                     rintro e w1 ⟨rfl, bb⟩
                     have k31 := k30.below bb k30.lt
                     have k61 := k60.below bb k60.lt
                     have B1 := B0.trans (bb.mono B0.size)
                     clear bb k30 k60 B0)
                  | (refine wpList_load_row rfl 25 (.tmp 3) rfl w.heap.size rfl 25 (scC A m c A2 m2 c2) (0, 0) _ k31.blk Try.underlying25 rfl (sc_inf _ _ _ _ _ _) ?_)
                  | (refine (HFR.out _ B1).mono ?_
                     clear HFR
                     rintro e w2 ⟨rfl, bb⟩
                     have k32 := k31.below bb k31.lt
                     have k62 := k61.below bb k61.lt
                     have B2 := B1.trans (bb.mono B1.size)
                     clear bb k31 k61 B1)
                  | (refine wpList_store_blk rfl 52 (.tmp 8) (.tmp 20) rfl w2.heap.size (rnC rn0) (rnC x) 52 rfl rfl (Blk.new _ _ _) rfl (rn_inf x) (rn_one x) ?_
                     intro w3 kb3 nb3
                     have bb : Below w2.heap.size w2 w3 := ((Below.refl _ w2).alloc (Nat.le_refl _) _).trans (nb3.below _ (Nat.le_refl _) (by simp))
                     have k33 := k32.below bb k32.lt
                     have k63 := k62.below bb k62.lt
                     have B3 := B2.trans (bb.mono B2.size)
                     have q8 : w3.cell? ⟨w2.heap.size, 1, none⟩ = some (.int .i64 x.s) := kb3.cell 1
                     clear bb nb3 kb3 k32 k62 B2)
                  | (refine wpList_load_row rfl 25 (.tmp 3) rfl w.heap.size rfl 25 (scC A m c A2 m2 c2) (0, 0) _ k33.blk Try.underlying25 rfl (sc_inf _ _ _ _ _ _) ?_)
                  | (refine (HFK.out _ B3).mono ?_
                     clear HFK
                     rintro e w4 ⟨rfl, bb⟩
                     have k34 := k33.below bb k33.lt
                     have k64 := k63.below bb k63.lt
                     have B4 := B3.trans (bb.mono B3.size)
                     clear bb k33 k63 B3)
                  | (refine wpList_store_blk rfl 48 (.tmp 10) (.tmp 41) rfl w4.heap.size (kwC kw0) (kwC y) 48 rfl rfl (Blk.new _ _ _) rfl (kw_inf y) (kw_one y) ?_
                     intro w5 kb5 nb5
                     have bb : Below w4.heap.size w4 w5 := ((Below.refl _ w4).alloc (Nat.le_refl _) _).trans (nb5.below _ (Nat.le_refl _) (by simp))
                     have k35 := k34.below bb k34.lt
                     have k65 := k64.below bb k64.lt
                     have B5 := B4.trans (bb.mono B4.size)
                     have q10 : w5.cell? ⟨w4.heap.size, 1, none⟩ = some (.int .i64 y.1.o) := kb5.cell 1
                     clear bb nb5 kb5 k34 k64 B4)
                  | (refine wpList_store_blk rfl 25 (.tmp 6) (.tmp 51) rfl (w.heap.size + 1) (scC none 0 0 none 0 0) (scC none 0 0 none 0 0) 25 rfl rfl k65 rfl (sc_inf _ _ _ _ _ _) (sc_one _ _ _ _ _ _) ?_
                     intro wz hz nz
                     have Bz := B5.trans (nz.below _ (by omega) B5.size)
                     clear nz k65 k35 B5))
                refine bodyPost_ret (results_row_tmp rfl _ _ (w.heap.size + 1) 25 (scC none 0 0 none 0 0) (0, 0) _ rfl hz.blk Try.underlying25 rfl (sc_inf _ _ _ _ _ _) _ rfl) rfl ?_
                exact ⟨_, by rw [HR.out]; rfl, by rw [HR.out]; exact scQ_nil wz, Bz⟩
              · have hne : (y.1.o != id) = false := by simpa [bne] using h3
                have HR := Lib.hid (show r = ((passN R (L.map (·.1)) n).1, (passN R (L.map (·.1)) n).2, 0) by rw [HR0.out, if_pos rfl, if_pos (by rw [hs2]; rfl), if_neg (by rw [h1, h2]; simp), if_pos (by rw [h3]; rfl)])
                clear HR0
                have HPS := Lib.hid (fun (V : World) (hV : Below w.heap.size w V) => pass_sc A m c R A2 m2 c2 L n V w.heap.size (HS.out.below hV (Nat.le_refl _)) hV.size (by have := (HSM.out rfl).1; omega) (by have := (HSM.out rfl).2; omega))
                unfold scV at HPS
                go_wp2_with (first
                  | (refine wpList_load_row rfl 25 (.tmp 3) rfl w.heap.size rfl 25 (scC A m c A2 m2 c2) (0, 0) _ k30.blk Try.underlying25 rfl (sc_inf _ _ _ _ _ _) ?_)
                  | (refine (HRT.out _ B0).mono ?_
                     clear HRT
                     rintro e w1 ⟨rfl, bb⟩
                     have k31 := k30.below bb k30.lt
                     have k61 := k60.below bb k60.lt
                     have B1 := B0.trans (bb.mono B0.size)
                     clear bb k30 k60 B0)
                  | (refine wpList_load_row rfl 25 (.tmp 3) rfl w.heap.size rfl 25 (scC A m c A2 m2 c2) (0, 0) _ k31.blk Try.underlying25 rfl (sc_inf _ _ _ _ _ _) ?_)
                  | (refine (HFR.out _ B1).mono ?_
                     clear HFR
                     rintro e w2 ⟨rfl, bb⟩
                     have k32 := k31.below bb k31.lt
                     have k62 := k61.below bb k61.lt
                     have B2 := B1.trans (bb.mono B1.size)
                     clear bb k31 k61 B1)
                  | (refine wpList_store_blk rfl 52 (.tmp 8) (.tmp 20) rfl w2.heap.size (rnC rn0) (rnC x) 52 rfl rfl (Blk.new _ _ _) rfl (rn_inf x) (rn_one x) ?_
                     intro w3 kb3 nb3
                     have bb : Below w2.heap.size w2 w3 := ((Below.refl _ w2).alloc (Nat.le_refl _) _).trans (nb3.below _ (Nat.le_refl _) (by simp))
                     have k33 := k32.below bb k32.lt
                     have k63 := k62.below bb k62.lt
                     have B3 := B2.trans (bb.mono B2.size)
                     have q8 : w3.cell? ⟨w2.heap.size, 1, none⟩ = some (.int .i64 x.s) := kb3.cell 1
                     clear bb nb3 kb3 k32 k62 B2)
                  | (refine wpList_load_row rfl 25 (.tmp 3) rfl w.heap.size rfl 25 (scC A m c A2 m2 c2) (0, 0) _ k33.blk Try.underlying25 rfl (sc_inf _ _ _ _ _ _) ?_)
                  | (refine (HFK.out _ B3).mono ?_
                     clear HFK
                     rintro e w4 ⟨rfl, bb⟩
                     have k34 := k33.below bb k33.lt
                     have k64 := k63.below bb k63.lt
                     have B4 := B3.trans (bb.mono B3.size)
                     clear bb k33 k63 B3)
                  | (refine wpList_store_blk rfl 48 (.tmp 10) (.tmp 41) rfl w4.heap.size (kwC kw0) (kwC y) 48 rfl rfl (Blk.new _ _ _) rfl (kw_inf y) (kw_one y) ?_
                     intro w5 kb5 nb5
                     have bb : Below w4.heap.size w4 w5 := ((Below.refl _ w4).alloc (Nat.le_refl _) _).trans (nb5.below _ (Nat.le_refl _) (by simp))
                     have k35 := k34.below bb k34.lt
                     have k65 := k64.below bb k64.lt
                     have B5 := B4.trans (bb.mono B4.size)
                     have q10 : w5.cell? ⟨w4.heap.size, 1, none⟩ = some (.int .i64 y.1.o) := kb5.cell 1
                     clear bb nb5 kb5 k34 k64 B4)
                  | (refine wpList_load_row rfl 25 (.tmp 3) rfl w.heap.size rfl 25 (scC A m c A2 m2 c2) (0, 0) _ k35.blk Try.underlying25 rfl (sc_inf _ _ _ _ _ _) ?_)
                  | (refine (HPS.out _ B5).mono ?_
                     clear HPS
                     rintro e w6 ⟨v, rfl, ⟨A7, m7, c7, A8, m8, c8, L7, rfl, _, hn7, kp7⟩, bb⟩
                     have k36 := k35.below bb k35.lt
                     have k66 := k65.below bb k65.lt
                     have B6 := B5.trans (bb.mono B5.size)
                     unfold scV
                     have h5l : w.heap.size + 1 < w5.heap.size := k65.lt
                     clear bb k35 k65 B5)
                  | (refine wpList_store_blk rfl 25 (.tmp 6) (.tmp 54) rfl (w.heap.size + 1) (scC none 0 0 none 0 0) (scC A7 m7 c7 A8 m8 c8) 25 rfl rfl k66 rfl (sc_inf _ _ _ _ _ _) (sc_one _ _ _ _ _ _) ?_
                     intro wz hz nz
                     have Bz := B6.trans (nz.below _ (by omega) B6.size)
                     have scz := kp7 (w.heap.size + 1) wz (Nat.le_succ _) h5l nz
                     clear nz k66 k36 B6))
                refine bodyPost_ret (results_row_tmp rfl _ _ (w.heap.size + 1) 25 (scC A7 m7 c7 A8 m8 c8) (0, 0) _ rfl hz.blk Try.underlying25 rfl (sc_inf _ _ _ _ _ _) _ rfl) rfl ?_
                exact ⟨_, by rw [HR.out]; rfl, by rw [HR.out]; exact ⟨A7, m7, c7, A8, m8, c8, L7, rfl, scz, hn7⟩, Bz⟩
          · have HR := Lib.hid (show r = ([], [], 2) by rw [HR0.out, if_pos rfl, if_pos (by rw [hs2]; rfl), if_pos (by rw [h1, h2]; rfl)])
            clear HR0
            go_wp2_with (first
              | (refine wpList_load_row rfl 25 (.tmp 3) rfl w.heap.size rfl 25 (scC A m c A2 m2 c2) (0, 0) _ k30.blk Try.underlying25 rfl (sc_inf _ _ _ _ _ _) ?_)
              | (refine (HRT.out _ B0).mono ?_
                 clear HRT
                 rintro e w1 ⟨rfl, bb⟩
                 have k31 := k30.below bb k30.lt
                 have k61 := k60.below bb k60.lt
                 have B1 := B0.trans (bb.mono B0.size)
                 clear bb k30 k60 B0)
              | (refine wpList_load_row rfl 25 (.tmp 3) rfl w.heap.size rfl 25 (scC A m c A2 m2 c2) (0, 0) _ k31.blk Try.underlying25 rfl (sc_inf _ _ _ _ _ _) ?_)
              | (refine (HFR.out _ B1).mono ?_
                 clear HFR
                 rintro e w2 ⟨rfl, bb⟩
                 have k32 := k31.below bb k31.lt
                 have k62 := k61.below bb k61.lt
                 have B2 := B1.trans (bb.mono B1.size)
                 clear bb k31 k61 B1)
              | (refine wpList_store_blk rfl 52 (.tmp 8) (.tmp 20) rfl w2.heap.size (rnC rn0) (rnC x) 52 rfl rfl (Blk.new _ _ _) rfl (rn_inf x) (rn_one x) ?_
                 intro w3 kb3 nb3
                 have bb : Below w2.heap.size w2 w3 := ((Below.refl _ w2).alloc (Nat.le_refl _) _).trans (nb3.below _ (Nat.le_refl _) (by simp))
                 have k33 := k32.below bb k32.lt
                 have k63 := k62.below bb k62.lt
                 have B3 := B2.trans (bb.mono B2.size)
                 have q8 : w3.cell? ⟨w2.heap.size, 1, none⟩ = some (.int .i64 x.s) := kb3.cell 1
                 clear bb nb3 kb3 k32 k62 B2)
              | (refine wpList_store_blk rfl 25 (.tmp 6) (.tmp 36) rfl (w.heap.size + 1) (scC none 0 0 none 0 0) (scC none 0 0 none 0 0) 25 rfl rfl k63 rfl (sc_inf _ _ _ _ _ _) (sc_one _ _ _ _ _ _) ?_
                 intro wz hz nz
                 have Bz := B3.trans (nz.below _ (by omega) B3.size)
                 clear nz k63 k33 B3))
            refine bodyPost_ret (results_row_tmp rfl _ _ (w.heap.size + 1) 25 (scC none 0 0 none 0 0) (0, 0) _ rfl hz.blk Try.underlying25 rfl (sc_inf _ _ _ _ _ _) _ rfl) rfl ?_
            exact ⟨_, by rw [HR.out]; rfl, by rw [HR.out]; exact scQ_nil wz, Bz⟩
        · have HR := Lib.hid (show r = ([], [], 2) by rw [HR0.out, if_pos rfl, if_pos (by rw [hs2]; rfl), if_pos (by rw [h1]; rfl)])
          clear HR0
          go_wp2_with (first
            | (refine wpList_load_row rfl 25 (.tmp 3) rfl w.heap.size rfl 25 (scC A m c A2 m2 c2) (0, 0) _ k30.blk Try.underlying25 rfl (sc_inf _ _ _ _ _ _) ?_)
            | (refine (HRT.out _ B0).mono ?_
               clear HRT
               rintro e w1 ⟨rfl, bb⟩
               have k31 := k30.below bb k30.lt
               have k61 := k60.below bb k60.lt
               have B1 := B0.trans (bb.mono B0.size)
               clear bb k30 k60 B0)
            | (refine wpList_load_row rfl 25 (.tmp 3) rfl w.heap.size rfl 25 (scC A m c A2 m2 c2) (0, 0) _ k31.blk Try.underlying25 rfl (sc_inf _ _ _ _ _ _) ?_)
            | (refine (HFR.out _ B1).mono ?_
               clear HFR
               rintro e w2 ⟨rfl, bb⟩
               have k32 := k31.below bb k31.lt
               have k62 := k61.below bb k61.lt
               have B2 := B1.trans (bb.mono B1.size)
               clear bb k31 k61 B1)
            | (refine wpList_store_blk rfl 52 (.tmp 8) (.tmp 20) rfl w2.heap.size (rnC rn0) (rnC x) 52 rfl rfl (Blk.new _ _ _) rfl (rn_inf x) (rn_one x) ?_
               intro w3 kb3 nb3
               have bb : Below w2.heap.size w2 w3 := ((Below.refl _ w2).alloc (Nat.le_refl _) _).trans (nb3.below _ (Nat.le_refl _) (by simp))
               have k33 := k32.below bb k32.lt
               have k63 := k62.below bb k62.lt
               have B3 := B2.trans (bb.mono B2.size)
               have q8 : w3.cell? ⟨w2.heap.size, 1, none⟩ = some (.int .i64 x.s) := kb3.cell 1
               clear bb nb3 kb3 k32 k62 B2)
            | (refine wpList_store_blk rfl 25 (.tmp 6) (.tmp 36) rfl (w.heap.size + 1) (scC none 0 0 none 0 0) (scC none 0 0 none 0 0) 25 rfl rfl k63 rfl (sc_inf _ _ _ _ _ _) (sc_one _ _ _ _ _ _) ?_
               intro wz hz nz
               have Bz := B3.trans (nz.below _ (by omega) B3.size)
               clear nz k63 k33 B3))
          refine bodyPost_ret (results_row_tmp rfl _ _ (w.heap.size + 1) 25 (scC none 0 0 none 0 0) (0, 0) _ rfl hz.blk Try.underlying25 rfl (sc_inf _ _ _ _ _ _) _ rfl) rfl ?_
          exact ⟨_, by rw [HR.out]; rfl, by rw [HR.out]; exact scQ_nil wz, Bz⟩
      · have HR := Lib.hid (show r = ([], [], 4) by rw [HR0.out, if_pos rfl, if_neg (by rw [hs2]; simp)])
        clear HR0
        go_wp2_with (first
          | (refine wpList_load_row rfl 25 (.tmp 3) rfl w.heap.size rfl 25 (scC A m c A2 m2 c2) (0, 0) _ k30.blk Try.underlying25 rfl (sc_inf _ _ _ _ _ _) ?_)
          | (refine (HRT.out _ B0).mono ?_
             clear HRT
             rintro e w1 ⟨rfl, bb⟩
             have k31 := k30.below bb k30.lt
             have k61 := k60.below bb k60.lt
             have B1 := B0.trans (bb.mono B0.size)
             clear bb k30 k60 B0)
          | (refine wpList_load_row rfl 25 (.tmp 3) rfl w.heap.size rfl 25 (scC A m c A2 m2 c2) (0, 0) _ k31.blk Try.underlying25 rfl (sc_inf _ _ _ _ _ _) ?_)
          | (refine (HFR.out _ B1).mono ?_
             clear HFR
             rintro e w2 ⟨rfl, bb⟩
             have k32 := k31.below bb k31.lt
             have k62 := k61.below bb k61.lt
             have B2 := B1.trans (bb.mono B1.size)
             clear bb k31 k61 B1)
          | (refine wpList_store_blk rfl 52 (.tmp 8) (.tmp 20) rfl w2.heap.size (rnC rn0) (rnC x) 52 rfl rfl (Blk.new _ _ _) rfl (rn_inf x) (rn_one x) ?_
             intro w3 kb3 nb3
             have bb : Below w2.heap.size w2 w3 := ((Below.refl _ w2).alloc (Nat.le_refl _) _).trans (nb3.below _ (Nat.le_refl _) (by simp))
             have k33 := k32.below bb k32.lt
             have k63 := k62.below bb k62.lt
             have B3 := B2.trans (bb.mono B2.size)
             have q8 : w3.cell? ⟨w2.heap.size, 1, none⟩ = some (.int .i64 x.s) := kb3.cell 1
             clear bb nb3 kb3 k32 k62 B2)
          | (refine wpList_store_blk rfl 25 (.tmp 6) (.tmp 29) rfl (w.heap.size + 1) (scC none 0 0 none 0 0) (scC none 0 0 none 0 0) 25 rfl rfl k63 rfl (sc_inf _ _ _ _ _ _) (sc_one _ _ _ _ _ _) ?_
             intro wz hz nz
             have Bz := B3.trans (nz.below _ (by omega) B3.size)
             clear nz k63 k33 B3))
        refine bodyPost_ret (results_row_tmp rfl _ _ (w.heap.size + 1) 25 (scC none 0 0 none 0 0) (0, 0) _ rfl hz.blk Try.underlying25 rfl (sc_inf _ _ _ _ _ _) _ rfl) rfl ?_
        exact ⟨_, by rw [HR.out]; rfl, by rw [HR.out]; exact scQ_nil wz, Bz⟩
end Go.Proofs.Ytfohifnbohdbcaa
namespace Go.Proofs.Ytfohifnbohdbcaa
open Go.RowKit Go.Shelf
set_option linter.unusedVariables false
set_option linter.unusedSimpArgs false
def bareK (L : List Kw) : List Kw := (L.map (·.1)).map fun k => (k, (none, 0))
theorem bareK_of {L L' : List Kw} (h : L'.map (·.1) = L.map (·.1)) : bareK L' = bareK L := by unfold bareK; rw [h]
theorem schB_bare (R : List Rn) (L : List Kw) : schB R L = schB R (bareK L) := by
  have e1 : numsK (bareK L) = numsK L := by simp only [bareK, numsK, List.map_map]; rfl
  have e2 : (bareK L).all (ownB R) = L.all (ownB R) := by simp only [bareK, List.all_map]; rfl
  have e3 : (bareK L).all (lockQ R) = L.all (lockQ R) := by simp only [bareK, List.all_map]; rfl
  have e4 : lensK (bareK L) = lensK L := by simp only [bareK, lensK, List.map_map]; rfl
  unfold schB queB
  rw [e1, e2, e3, e4]
section
variable {L L' : List Kw} (h : L'.map (·.1) = L.map (·.1)) (R : List Rn)
include h
theorem schB_names : schB R L' = schB R L := by rw [schB_bare R L', schB_bare R L, bareK_of h]
theorem scE_names : scE R L' = scE R L := by unfold scE; rw [schB_names h]
end
end Go.Proofs.Ytfohifnbohdbcaa
namespace Go.Proofs.Ytfohifnbohdbcaa
open Go.RowKit Go.Shelf
set_option linter.unusedVariables false
set_option linter.unusedSimpArgs false
structure TL (w : World) (X Y : Array Value) (q0 q1 : Int) (V : World) : Prop where
  b : Below w.heap.size w V
  k3 : Blk V w.heap.size X 25
  k4 : Blk V (w.heap.size + 1) Y 25
  k5 : Blk V (w.heap.size + 1 + 1) #[.int .i64 q0, .int .i64 q1] 38
theorem TL.step {w : World} {X Y : Array Value} {q0 q1 : Int} {V V' : World} (h : TL w X Y q0 q1 V) (bb : Below V.heap.size V V') : TL w X Y q0 q1 V' :=
  ⟨h.b.trans (bb.mono h.b.size), h.k3.below bb h.k3.lt, h.k4.below bb h.k4.lt, h.k5.below bb h.k5.lt⟩
theorem TL.new (w : World) (X Y : Array Value) (q0 q1 : Int) : TL w X Y q0 q1 (((w.alloc (.cells X 25)).alloc (.cells Y 25)).alloc (.cells #[.int .i64 q0, .int .i64 q1] 38)) :=
  ⟨(((Below.refl w.heap.size w).alloc (Nat.le_refl _) _).alloc (by simp) _).alloc (by simp; omega) _, ((Blk.new w X 25).alloc _).alloc _, (Blk.new_ (w.alloc (.cells X 25)) Y 25 (n := w.heap.size + 1) (by simp)).alloc _, Blk.new_ _ _ _ (by simp)⟩
structure CpV (V : World) (R : List Rn) (L : List Kw) (A : Option Addr) (m c : Nat) (A2 : Option Addr) (m2 c2 : Nat) (L1 : List Kw) : Prop where
  sc : Sc V V.heap.size A m c R A2 m2 c2 L1
  nm : L1.map (·.1) = L.map (·.1)
theorem CopL.cpv {w : World} {v : Value} {B : Nat} {R : List Rn} {L : List Kw} (h : CopL w v B R L) : ∃ A m c A2 m2 c2 L1, v = scV A m c A2 m2 c2 ∧ CpV w R L A m c A2 m2 c2 L1 := by
  obtain ⟨A, m, c, A2, m2, c2, L1, e, sc, hn⟩ := h
  exact ⟨A, m, c, A2, m2, c2, L1, e, sc, hn⟩
theorem CpV.step {V V' : World} {R : List Rn} {L : List Kw} {A : Option Addr} {m c : Nat} {A2 : Option Addr} {m2 c2 : Nat} {L1 : List Kw} (h : CpV V R L A m c A2 m2 c2 L1) (b : Below V.heap.size V V') : CpV V' R L A m c A2 m2 c2 L1 := ⟨h.sc.on b, h.nm⟩
theorem wpList_app1Z {w : World} {ops : Array Oper} {rest : List Oper} {o : Oper} {a : Act} {Q : Exit → Act → World → Prop} (hgd : o.guard = none) (s x : Operand)
    (ho : o.op = .call { callee := .builtin .append, args := #[s, x], argTypes := #[40, 40] })
    (base : Nat) (A : Option Addr) (m c : Nat) (l : List Int) (hs : a.eval s = .slice A m c) (hown : Zo w base A m c l) (g : Nat) (y : Int) (hx : a.eval x = .slice (some ⟨g, 0, none⟩) 1 1) (hc : w.cell? ⟨g, 0, none⟩ = some (.int .i64 y)) (h6 : m ≤ 1000000) (hbase : base ≤ w.heap.size)
    (h : ∀ A' c' w', Zo w' base A' (m + 1) c' (l ++ [y]) → Below base w w' → wpList Try.prog ops Q rest (a.put o.dst (.slice A' (m + 1) c')) w') :
    wpList Try.prog ops Q (o :: rest) a w := by
  obtain ⟨i0, hi, hz0, hz1, hz2⟩ := info_parts zint_info
  refine wpList_append_own w hgd s x 40 ho base 3 i0 _ 1 8 Try.underlying40 hi hz0 hz1 hz2 rfl (by decide) _ _ _ hs hown ⟨g, 0, none⟩ 1 1 [.int .i64 y] hx rfl ?_ (by simp [Value.oneCell']) (by simp only [maxLen]; omega) (by omega) hbase ?_
  · intro j u hu
    match j, hu with
    | 0, hu =>
      simp only [List.getElem?_cons_zero, Option.some.injEq] at hu
      subst hu
      simpa [Addr.add] using hc
    | j + 1, hu => simp at hu
  · intro v' w3 hown' hgrow _
    obtain ⟨A9, c9, rfl⟩ := own_slice hown'
    exact h A9 c9 w3 (by unfold Zo; rw [List.map_append]; exact hown') ((Below.refl base w).grown hgrow hbase (fun r e => (hown.lt r e).1))
structure TM (w : World) (X Y : Array Value) (q0 q1 : Int) (g : Nat) (lx : Kw) (V : World) : Prop where
  t : TL w X Y q0 q1 V
  k : Blk V g (kwC lx) 48
theorem TM.step {w : World} {X Y : Array Value} {q0 q1 : Int} {g : Nat} {lx : Kw} {V V' : World} (h : TM w X Y q0 q1 g lx V) (bb : Below V.heap.size V V') : TM w X Y q0 q1 g lx V' := ⟨h.t.step bb, h.k.below bb h.k.lt⟩
theorem ownerF_fnd (L : List Kw) (n : Int) : ownerF L n = (fndK L n).1.1.o := by
  unfold ownerF fndK
  cases lockF L n <;> rfl
end Go.Proofs.Ytfohifnbohdbcaa
