/-
  The reference's Add.
-/
import Derived.Test.YtfohifnbohdbcaaQScPt
namespace Go.Proofs.Ytfohifnbohdbcaa
open Go.RowKit Go.Shelf
set_option linter.unusedVariables false
set_option linter.unusedSimpArgs false
def addW (R : List Rn) (L : List Kw) (id : Int) : List Rn × List Kn × Int :=
  if schB R L = true then (if (decide (id < 1) || decide (20 < id)) = true then ([], [], 2) else if (fndR R id).2 = true then ([], [], 5) else if R.length = 8 then ([], [], 6) else (putG numR ⟨id, 0, 0⟩ false R, L.map (·.1), 0)) else ([], [], 230)
set_option maxRecDepth 100000 in
set_option maxHeartbeats 8000000 in
theorem radd_sc (A : Option Addr) (m c : Nat) (R : List Rn) (A2 : Option Addr) (m2 c2 : Nat) (L : List Kw) (id : Int) (w : World) (h : Sc w w.heap.size A m c R A2 m2 c2 L) :
    Calls Try.prog 12 #[scV A m c A2 m2 c2, .int .i64 id] w fun e w' => ∃ v, e = .returned (.tuple #[v, .int .i64 (addW R L id).2.2]) ∧ ScQ w' v ((addW R L id).1, (addW R L id).2.1) ∧ Below w.heap.size w w' := by
  have k30 := (Blk.new w (scC A m c A2 m2 c2) 25).alloc (.cells #[.slice none 0 0, .slice none 0 0] 25)
  have k60 : Blk ((w.alloc (.cells (scC A m c A2 m2 c2) 25)).alloc (.cells #[.slice none 0 0, .slice none 0 0] 25)) (w.heap.size + 1) (scC none 0 0 none 0 0) 25 := Blk.new_ _ _ _ (by simp)
  have B0 := ((Below.refl w.heap.size w).alloc (Nat.le_refl _) (.cells (scC A m c A2 m2 c2) 25)).alloc (by simp) (.cells #[.slice none 0 0, .slice none 0 0] 25)
  have HS := Lib.hid h
  have HRT := Lib.hid (fun (V : World) (hV : Below w.heap.size w V) => right_sc A m c R A2 m2 c2 L V (h.on hV))
  have HFR := Lib.hid (fun (V : World) (hV : Below w.heap.size w V) => find_R A m c R A2 m2 c2 L id V (h.on hV))
  rw [right_eq] at HRT
  have HSM := Lib.hid (fun (hs : schB R L = true) => (show m ≤ 8 from by have := (okd_of h (by unfold scE; rw [if_pos hs])).r; have := h.len; omega))
  obtain ⟨r, hr⟩ : ∃ r, addW R L id = r := ⟨_, rfl⟩
  rw [hr]
  unfold addW at hr
  rw [show R.length = m from h.len.symm] at hr
  obtain ⟨⟨x, xb⟩, hx⟩ : ∃ p, fndR R id = p := ⟨_, rfl⟩
  rw [hx] at HFR hr
  generalize schB R L = sB at HRT HSM hr
  have HR0 := Lib.hid hr.symm
  clear hr hx h
  simp only at HR0
  unfold scV rnV at HFR
  unfold scV at HRT
  go_enter Try.func12, Try.ntmps12
  cases sB
  · have HR := Lib.hid (show r = ([], [], 230) by rw [HR0.out, if_neg (by simp)])
    clear HR0
    go_wp2_with (first
      | (refine wpList_load_row rfl 25 (.tmp 2) rfl w.heap.size rfl 25 (scC A m c A2 m2 c2) (0, 0) _ k30.blk Try.underlying25 rfl (sc_inf _ _ _ _ _ _) ?_)
      | (refine (HRT.out _ B0).mono ?_
         clear HRT
         rintro e w1 ⟨rfl, bb⟩
         have k31 := k30.below bb k30.lt
         have k61 := k60.below bb k60.lt
         have B1 := B0.trans (bb.mono B0.size)
         clear bb k30 k60 B0)
      | (refine wpList_store_blk rfl 25 (.tmp 4) (.tmp 11) rfl (w.heap.size + 1) (scC none 0 0 none 0 0) (scC none 0 0 none 0 0) 25 rfl rfl k61 rfl (sc_inf _ _ _ _ _ _) (sc_one _ _ _ _ _ _) ?_
         intro wz hz nz
         have Bz := B1.trans (nz.below _ (by omega) B1.size)
         clear nz k61 k31 B1))
    refine bodyPost_ret (results_row_tmp rfl _ _ (w.heap.size + 1) 25 (scC none 0 0 none 0 0) (0, 0) _ rfl hz.blk Try.underlying25 rfl (sc_inf _ _ _ _ _ _) _ rfl) rfl ?_
    exact ⟨_, by rw [HR.out]; rfl, by rw [HR.out]; exact scQ_nil wz, Bz⟩
  · cases h1 : decide (id < 1)
    · cases h2 : decide (20 < id)
      · cases xb
        · cases h8 : ((m : Int) == 8)
          · have HR := Lib.hid (show r = (putG numR ⟨id, 0, 0⟩ false R, L.map (·.1), 0) by rw [HR0.out, if_pos rfl, if_neg (by rw [h1, h2]; simp), if_neg (by simp), if_neg (by intro e; rw [e] at h8; simp at h8)])
            clear HR0
            have HPR := Lib.hid (fun (V : World) (hV : Below w.heap.size w V) => put_R A m c R ⟨id, 0, 0⟩ V ((HS.out.rs.below hV (Nat.le_refl _)).more hV.size) HS.out.len (by have := HSM.out (by trivial); omega))
            go_wp2_with (first
              | (refine wpList_load_row rfl 25 (.tmp 2) rfl w.heap.size rfl 25 (scC A m c A2 m2 c2) (0, 0) _ k30.blk Try.underlying25 rfl (sc_inf _ _ _ _ _ _) ?_)
              | (refine (HRT.out _ B0).mono ?_
                 clear HRT
                 rintro e w1 ⟨rfl, bb⟩
                 have k31 := k30.below bb k30.lt
                 have k61 := k60.below bb k60.lt
                 have B1 := B0.trans (bb.mono B0.size)
                 clear bb k30 k60 B0)
              | (refine wpList_load_row rfl 25 (.tmp 2) rfl w.heap.size rfl 25 (scC A m c A2 m2 c2) (0, 0) _ k31.blk Try.underlying25 rfl (sc_inf _ _ _ _ _ _) ?_)
              | (refine (HFR.out _ B1).mono ?_
                 clear HFR
                 rintro e w2 ⟨rfl, bb⟩
                 have k32 := k31.below bb k31.lt
                 have k62 := k61.below bb k61.lt
                 have B2 := B1.trans (bb.mono B1.size)
                 clear bb k31 k61 B1)
              | (refine wpList_store_blk rfl 52 (.tmp 6) (.tmp 23) rfl w2.heap.size (rnC rn0) (rnC x) 52 rfl rfl (Blk.new _ _ _) rfl (rn_inf x) (rn_one x) ?_
                 intro w3 kb3 nb3
                 have bb : Below w2.heap.size w2 w3 := ((Below.refl _ w2).alloc (Nat.le_refl _) _).trans (nb3.below _ (Nat.le_refl _) (by simp))
                 have k33 := k32.below bb k32.lt
                 have k63 := k62.below bb k62.lt
                 have B3 := B2.trans (bb.mono B2.size)
                 have q8 : w3.cell? ⟨w.heap.size, 0, none⟩ = some (.slice A m c) := k33.cell 0
                 clear bb nb3 kb3 k32 k62 B2)
              | (refine (HPR.out _ B3).mono ?_
                 clear HPR
                 rintro e w4 ⟨G, gm, gc, rfl, rr, bb⟩
                 have k34 := k33.below bb k33.lt
                 have k64 := k63.below bb k63.lt
                 have B4 := B3.trans (bb.mono B3.size)
                 have rr := rr.down B3.size
                 have q3 : w4.cell? ⟨w.heap.size, 0, none⟩ = some (.slice A m c) := k34.cell 0
                 have f3 := k34.frozen 0
                 have n7 : But w.heap.size w4 (w4.setCell ⟨w.heap.size, 0, none⟩ (.slice G gm gc)) := (But.refl w.heap.size w4).setCell (p := ⟨w.heap.size, 0, none⟩) (.inl rfl) _
                 have k37 : Blk (w4.setCell ⟨w.heap.size, 0, none⟩ (.slice G gm gc)) w.heap.size (scC G gm gc A2 m2 c2) 25 := k34.set_ 0 _
                 have k67 := n7.blk7 k64 (by omega)
                 have rr7 : RoR _ w.heap.size G gm gc _ := own_kind rr (grown_but n7) (fun g' e => by cases e; exact ⟨_, _, k34, by decide⟩)
                 have B7 := B4.trans (n7.below _ (Nat.le_refl _) B4.size)
                 have HZ := Lib.hid (And.intro k67 (And.intro rr7 B7))
                 clear bb k33 k63 B3 rr n7 k67 rr7 B7 k64 B4 q8)
              | (refine wpList_load_row rfl 25 (.tmp 2) rfl w.heap.size rfl 25 (scC G gm gc A2 m2 c2) (0, 0) _ k37.blk Try.underlying25 rfl (sc_inf _ _ _ _ _ _) ?_)
              | (refine wpList_store_blk rfl 25 (.tmp 4) (.tmp 38) rfl (w.heap.size + 1) (scC none 0 0 none 0 0) (scC G gm gc A2 m2 c2) 25 rfl rfl HZ.out.1 rfl (sc_inf _ _ _ _ _ _) (sc_one _ _ _ _ _ _) ?_
                 intro wz hz nz))
            have hzz := HZ.out
            have rrz : RoR wz w.heap.size G gm gc (putG numR (⟨id, 0, 0⟩ : Rn) false R) := own_kind hzz.2.1 (grown_but nz) (fun g' e => by cases e; exact ⟨_, _, hzz.1, by decide⟩)
            have Bz := hzz.2.2.trans (nz.below _ (by omega) hzz.2.2.size)
            have hsz := HS.out.on Bz
            have rgl := rrz.len
            have hgm : gm ≤ R.length + 1 := by rw [rgl]; exact Nat.le_trans (putG_len numR _ R _) (by split <;> omega)
            refine bodyPost_ret (results_row_tmp rfl _ _ (w.heap.size + 1) 25 (scC G gm gc A2 m2 c2) (0, 0) _ rfl hz.blk Try.underlying25 rfl (sc_inf _ _ _ _ _ _) _ rfl) rfl ?_
            exact ⟨_, by rw [HR.out]; rfl, by rw [HR.out]; exact ⟨G, gm, gc, A2, m2, c2, L, rfl, ⟨rrz.rs, hsz.ks, hsz.q, rgl, hsz.len2, by have := HS.out.len; have := HSM.out (by trivial); omega, hsz.lim2⟩, rfl⟩, Bz⟩
          · have HR := Lib.hid (show r = ([], [], 6) by rw [HR0.out, if_pos rfl, if_neg (by rw [h1, h2]; simp), if_neg (by simp), if_pos (by have := eq_of_beq h8; omega)])
            clear HR0
            go_wp2_with (first
              | (refine wpList_load_row rfl 25 (.tmp 2) rfl w.heap.size rfl 25 (scC A m c A2 m2 c2) (0, 0) _ k30.blk Try.underlying25 rfl (sc_inf _ _ _ _ _ _) ?_)
              | (refine (HRT.out _ B0).mono ?_
                 clear HRT
                 rintro e w1 ⟨rfl, bb⟩
                 have k31 := k30.below bb k30.lt
                 have k61 := k60.below bb k60.lt
                 have B1 := B0.trans (bb.mono B0.size)
                 clear bb k30 k60 B0)
              | (refine wpList_load_row rfl 25 (.tmp 2) rfl w.heap.size rfl 25 (scC A m c A2 m2 c2) (0, 0) _ k31.blk Try.underlying25 rfl (sc_inf _ _ _ _ _ _) ?_)
              | (refine (HFR.out _ B1).mono ?_
                 clear HFR
                 rintro e w2 ⟨rfl, bb⟩
                 have k32 := k31.below bb k31.lt
                 have k62 := k61.below bb k61.lt
                 have B2 := B1.trans (bb.mono B1.size)
                 clear bb k31 k61 B1)
              | (refine wpList_store_blk rfl 52 (.tmp 6) (.tmp 23) rfl w2.heap.size (rnC rn0) (rnC x) 52 rfl rfl (Blk.new _ _ _) rfl (rn_inf x) (rn_one x) ?_
                 intro w3 kb3 nb3
                 have bb : Below w2.heap.size w2 w3 := ((Below.refl _ w2).alloc (Nat.le_refl _) _).trans (nb3.below _ (Nat.le_refl _) (by simp))
                 have k33 := k32.below bb k32.lt
                 have k63 := k62.below bb k62.lt
                 have B3 := B2.trans (bb.mono B2.size)
                 have q8 : w3.cell? ⟨w.heap.size, 0, none⟩ = some (.slice A m c) := k33.cell 0
                 clear bb nb3 kb3 k32 k62 B2)
              | (refine wpList_store_blk rfl 25 (.tmp 4) (.tmp 31) rfl (w.heap.size + 1) (scC none 0 0 none 0 0) (scC none 0 0 none 0 0) 25 rfl rfl k63 rfl (sc_inf _ _ _ _ _ _) (sc_one _ _ _ _ _ _) ?_
                 intro wz hz nz
                 have Bz := B3.trans (nz.below _ (by omega) B3.size)
                 clear nz k63 k33 B3))
            refine bodyPost_ret (results_row_tmp rfl _ _ (w.heap.size + 1) 25 (scC none 0 0 none 0 0) (0, 0) _ rfl hz.blk Try.underlying25 rfl (sc_inf _ _ _ _ _ _) _ rfl) rfl ?_
            exact ⟨_, by rw [HR.out]; rfl, by rw [HR.out]; exact scQ_nil wz, Bz⟩
        · have HR := Lib.hid (show r = ([], [], 5) by rw [HR0.out, if_pos rfl, if_neg (by rw [h1, h2]; simp), if_pos rfl])
          clear HR0
          go_wp2_with (first
            | (refine wpList_load_row rfl 25 (.tmp 2) rfl w.heap.size rfl 25 (scC A m c A2 m2 c2) (0, 0) _ k30.blk Try.underlying25 rfl (sc_inf _ _ _ _ _ _) ?_)
            | (refine (HRT.out _ B0).mono ?_
               clear HRT
               rintro e w1 ⟨rfl, bb⟩
               have k31 := k30.below bb k30.lt
               have k61 := k60.below bb k60.lt
               have B1 := B0.trans (bb.mono B0.size)
               clear bb k30 k60 B0)
            | (refine wpList_load_row rfl 25 (.tmp 2) rfl w.heap.size rfl 25 (scC A m c A2 m2 c2) (0, 0) _ k31.blk Try.underlying25 rfl (sc_inf _ _ _ _ _ _) ?_)
            | (refine (HFR.out _ B1).mono ?_
               clear HFR
               rintro e w2 ⟨rfl, bb⟩
               have k32 := k31.below bb k31.lt
               have k62 := k61.below bb k61.lt
               have B2 := B1.trans (bb.mono B1.size)
               clear bb k31 k61 B1)
            | (refine wpList_store_blk rfl 52 (.tmp 6) (.tmp 23) rfl w2.heap.size (rnC rn0) (rnC x) 52 rfl rfl (Blk.new _ _ _) rfl (rn_inf x) (rn_one x) ?_
               intro w3 kb3 nb3
               have bb : Below w2.heap.size w2 w3 := ((Below.refl _ w2).alloc (Nat.le_refl _) _).trans (nb3.below _ (Nat.le_refl _) (by simp))
               have k33 := k32.below bb k32.lt
               have k63 := k62.below bb k62.lt
               have B3 := B2.trans (bb.mono B2.size)
               have q8 : w3.cell? ⟨w.heap.size, 0, none⟩ = some (.slice A m c) := k33.cell 0
               clear bb nb3 kb3 k32 k62 B2)
            | (refine wpList_store_blk rfl 25 (.tmp 4) (.tmp 26) rfl (w.heap.size + 1) (scC none 0 0 none 0 0) (scC none 0 0 none 0 0) 25 rfl rfl k63 rfl (sc_inf _ _ _ _ _ _) (sc_one _ _ _ _ _ _) ?_
               intro wz hz nz
               have Bz := B3.trans (nz.below _ (by omega) B3.size)
               clear nz k63 k33 B3))
          refine bodyPost_ret (results_row_tmp rfl _ _ (w.heap.size + 1) 25 (scC none 0 0 none 0 0) (0, 0) _ rfl hz.blk Try.underlying25 rfl (sc_inf _ _ _ _ _ _) _ rfl) rfl ?_
          exact ⟨_, by rw [HR.out]; rfl, by rw [HR.out]; exact scQ_nil wz, Bz⟩
      · have HR := Lib.hid (show r = ([], [], 2) by rw [HR0.out, if_pos rfl, if_pos (by rw [h1, h2]; rfl)])
        clear HR0
        go_wp2_with (first
          | (refine wpList_load_row rfl 25 (.tmp 2) rfl w.heap.size rfl 25 (scC A m c A2 m2 c2) (0, 0) _ k30.blk Try.underlying25 rfl (sc_inf _ _ _ _ _ _) ?_)
          | (refine (HRT.out _ B0).mono ?_
             clear HRT
             rintro e w1 ⟨rfl, bb⟩
             have k31 := k30.below bb k30.lt
             have k61 := k60.below bb k60.lt
             have B1 := B0.trans (bb.mono B0.size)
             clear bb k30 k60 B0)
          | (refine wpList_store_blk rfl 25 (.tmp 4) (.tmp 18) rfl (w.heap.size + 1) (scC none 0 0 none 0 0) (scC none 0 0 none 0 0) 25 rfl rfl k61 rfl (sc_inf _ _ _ _ _ _) (sc_one _ _ _ _ _ _) ?_
             intro wz hz nz
             have Bz := B1.trans (nz.below _ (by omega) B1.size)
             clear nz k61 k31 B1))
        refine bodyPost_ret (results_row_tmp rfl _ _ (w.heap.size + 1) 25 (scC none 0 0 none 0 0) (0, 0) _ rfl hz.blk Try.underlying25 rfl (sc_inf _ _ _ _ _ _) _ rfl) rfl ?_
        exact ⟨_, by rw [HR.out]; rfl, by rw [HR.out]; exact scQ_nil wz, Bz⟩
    · have HR := Lib.hid (show r = ([], [], 2) by rw [HR0.out, if_pos rfl, if_pos (by rw [h1]; rfl)])
      clear HR0
      go_wp2_with (first
        | (refine wpList_load_row rfl 25 (.tmp 2) rfl w.heap.size rfl 25 (scC A m c A2 m2 c2) (0, 0) _ k30.blk Try.underlying25 rfl (sc_inf _ _ _ _ _ _) ?_)
        | (refine (HRT.out _ B0).mono ?_
           clear HRT
           rintro e w1 ⟨rfl, bb⟩
           have k31 := k30.below bb k30.lt
           have k61 := k60.below bb k60.lt
           have B1 := B0.trans (bb.mono B0.size)
           clear bb k30 k60 B0)
        | (refine wpList_store_blk rfl 25 (.tmp 4) (.tmp 18) rfl (w.heap.size + 1) (scC none 0 0 none 0 0) (scC none 0 0 none 0 0) 25 rfl rfl k61 rfl (sc_inf _ _ _ _ _ _) (sc_one _ _ _ _ _ _) ?_
           intro wz hz nz
           have Bz := B1.trans (nz.below _ (by omega) B1.size)
           clear nz k61 k31 B1))
      refine bodyPost_ret (results_row_tmp rfl _ _ (w.heap.size + 1) 25 (scC none 0 0 none 0 0) (0, 0) _ rfl hz.blk Try.underlying25 rfl (sc_inf _ _ _ _ _ _) _ rfl) rfl ?_
      exact ⟨_, by rw [HR.out]; rfl, by rw [HR.out]; exact scQ_nil wz, Bz⟩
end Go.Proofs.Ytfohifnbohdbcaa
