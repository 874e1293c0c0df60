/-
  The reference's Forget.
-/
import Derived.Test.YtfohifnbohdbcaaQScPa
namespace Go.Proofs.Ytfohifnbohdbcaa
open Go.RowKit Go.Shelf
set_option linter.unusedVariables false
set_option linter.unusedSimpArgs false
def forgetW (R : List Rn) (L : List Kw) (id : Int) : List Rn × List Kn × Int :=
  if schB R L = true then (if (fndR R id).2 = true then (if ((fndR R id).1.s != 2) = true then ([], [], 2) else (R.filter (fun y => y.i != id), L.map (·.1), 0)) else ([], [], 4)) else ([], [], 230)
theorem take_filt {α : Type} (d : α) (p : α → Bool) {L : List α} {k : Nat} (h : k < L.length) : (L.take (k + 1)).filter p = (L.take k).filter p ++ (if p (L.getD k d) = true then [L.getD k d] else []) := by
  rw [List.take_succ_eq_append_getElem h, show L[k] = L.getD k d by simp [List.getD, h], List.filter_append]
  congr 1
  rw [List.filter_cons]
  split <;> rfl
set_option maxRecDepth 100000 in
set_option maxHeartbeats 8000000 in
theorem rforget_sc (A : Option Addr) (m c : Nat) (R : List Rn) (A2 : Option Addr) (m2 c2 : Nat) (L : List Kw) (id : Int) (w : World) (h : Sc w w.heap.size A m c R A2 m2 c2 L) :
    Calls Try.prog 16 #[scV A m c A2 m2 c2, .int .i64 id] w fun e w' => ∃ v, e = .returned (.tuple #[v, .int .i64 (forgetW R L id).2.2]) ∧ ScQ w' v ((forgetW R L id).1, (forgetW R L id).2.1) ∧ Below w.heap.size w w' := by
  have k30 := (Blk.new w (scC A m c A2 m2 c2) 25).alloc (.cells #[.slice none 0 0, .slice none 0 0] 25)
  have k60 : Blk ((w.alloc (.cells (scC A m c A2 m2 c2) 25)).alloc (.cells #[.slice none 0 0, .slice none 0 0] 25)) (w.heap.size + 1) (scC none 0 0 none 0 0) 25 := Blk.new_ _ _ _ (by simp)
  have B0 := ((Below.refl w.heap.size w).alloc (Nat.le_refl _) (.cells (scC A m c A2 m2 c2) 25)).alloc (by simp) (.cells #[.slice none 0 0, .slice none 0 0] 25)
  have HS := Lib.hid h
  have HRT := Lib.hid (fun (V : World) (hV : Below w.heap.size w V) => right_sc A m c R A2 m2 c2 L V (h.on hV))
  have HFR := Lib.hid (fun (V : World) (hV : Below w.heap.size w V) => find_R A m c R A2 m2 c2 L id V (h.on hV))
  rw [right_eq] at HRT
  have HSM := Lib.hid (fun (hs : schB R L = true) => (show m ≤ 8 from by have := (okd_of h (by unfold scE; rw [if_pos hs])).r; have := h.len; omega))
  have hmR := h.len
  obtain ⟨r, hr⟩ : ∃ r, forgetW R L id = r := ⟨_, rfl⟩
  rw [hr]
  unfold forgetW at hr
  obtain ⟨⟨x, xb⟩, hx⟩ : ∃ p, fndR R id = p := ⟨_, rfl⟩
  rw [hx] at HFR hr
  generalize schB R L = sB at HRT HSM hr
  have HR0 := Lib.hid hr.symm
  have HM := Lib.hid hmR
  clear hr hx h hmR
  simp only at HR0
  unfold scV rnV at HFR
  unfold scV at HRT
  go_enter Try.func16, Try.ntmps16
  cases sB
  · have HR := Lib.hid (show r = ([], [], 230) by rw [HR0.out, if_neg (by simp)])
    clear HR0
    go_wp2_with (first
      | (refine wpList_load_row rfl 25 (.tmp 2) rfl w.heap.size rfl 25 (scC A m c A2 m2 c2) (0, 0) _ k30.blk Try.underlying25 rfl (sc_inf _ _ _ _ _ _) ?_)
      | (refine (HRT.out _ B0).mono ?_
         clear HRT
         rintro e w1 ⟨rfl, bb⟩
         have k31 := k30.below bb k30.lt
         have k61 := k60.below bb k60.lt
         have B1 := B0.trans (bb.mono B0.size)
         clear bb k30 k60 B0)
      | (refine wpList_store_blk rfl 25 (.tmp 4) (.tmp 13) rfl (w.heap.size + 1) (scC none 0 0 none 0 0) (scC none 0 0 none 0 0) 25 rfl rfl k61 rfl (sc_inf _ _ _ _ _ _) (sc_one _ _ _ _ _ _) ?_
         intro wz hz nz
         have Bz := B1.trans (nz.below _ (by omega) B1.size)
         clear nz k61 k31 B1))
    refine bodyPost_ret (results_row_tmp rfl _ _ (w.heap.size + 1) 25 (scC none 0 0 none 0 0) (0, 0) _ rfl hz.blk Try.underlying25 rfl (sc_inf _ _ _ _ _ _) _ rfl) rfl ?_
    exact ⟨_, by rw [HR.out]; rfl, by rw [HR.out]; exact scQ_nil wz, Bz⟩
  · cases xb
    · have HR := Lib.hid (show r = ([], [], 4) by rw [HR0.out, if_pos rfl, if_neg (by simp)])
      clear HR0
      go_wp2_with (first
        | (refine wpList_load_row rfl 25 (.tmp 2) rfl w.heap.size rfl 25 (scC A m c A2 m2 c2) (0, 0) _ k30.blk Try.underlying25 rfl (sc_inf _ _ _ _ _ _) ?_)
        | (refine (HRT.out _ B0).mono ?_
           clear HRT
           rintro e w1 ⟨rfl, bb⟩
           have k31 := k30.below bb k30.lt
           have k61 := k60.below bb k60.lt
           have B1 := B0.trans (bb.mono B0.size)
           clear bb k30 k60 B0)
        | (refine wpList_load_row rfl 25 (.tmp 2) rfl w.heap.size rfl 25 (scC A m c A2 m2 c2) (0, 0) _ k31.blk Try.underlying25 rfl (sc_inf _ _ _ _ _ _) ?_)
        | (refine (HFR.out _ B1).mono ?_
           clear HFR
           rintro e w2 ⟨rfl, bb⟩
           have k32 := k31.below bb k31.lt
           have k62 := k61.below bb k61.lt
           have B2 := B1.trans (bb.mono B1.size)
           clear bb k31 k61 B1)
        | (refine wpList_store_blk rfl 52 (.tmp 6) (.tmp 18) rfl w2.heap.size (rnC rn0) (rnC x) 52 rfl rfl (Blk.new _ _ _) rfl (rn_inf x) (rn_one x) ?_
           intro w3 kb3 nb3
           have bb : Below w2.heap.size w2 w3 := ((Below.refl _ w2).alloc (Nat.le_refl _) _).trans (nb3.below _ (Nat.le_refl _) (by simp))
           have k33 := k32.below bb k32.lt
           have k63 := k62.below bb k62.lt
           have B3 := B2.trans (bb.mono B2.size)
           have q8 : w3.cell? ⟨w2.heap.size, 1, none⟩ = some (.int .i64 x.s) := kb3.cell 1
           clear bb nb3 kb3 k32 k62 B2)
        | (refine wpList_store_blk rfl 25 (.tmp 4) (.tmp 22) rfl (w.heap.size + 1) (scC none 0 0 none 0 0) (scC none 0 0 none 0 0) 25 rfl rfl k63 rfl (sc_inf _ _ _ _ _ _) (sc_one _ _ _ _ _ _) ?_
           intro wz hz nz
           have Bz := B3.trans (nz.below _ (by omega) B3.size)
           clear nz k63 k33 B3))
      refine bodyPost_ret (results_row_tmp rfl _ _ (w.heap.size + 1) 25 (scC none 0 0 none 0 0) (0, 0) _ rfl hz.blk Try.underlying25 rfl (sc_inf _ _ _ _ _ _) _ rfl) rfl ?_
      exact ⟨_, by rw [HR.out]; rfl, by rw [HR.out]; exact scQ_nil wz, Bz⟩
    · cases hs2 : (x.s != 2)
      · have HR := Lib.hid (show r = (R.filter (fun y => y.i != id), L.map (·.1), 0) by rw [HR0.out, if_pos rfl, if_pos rfl, if_neg (by rw [hs2]; simp)])
        clear HR0
        go_wp2_with (first
          | (refine wpList_load_row rfl 25 (.tmp 2) rfl w.heap.size rfl 25 (scC A m c A2 m2 c2) (0, 0) _ k30.blk Try.underlying25 rfl (sc_inf _ _ _ _ _ _) ?_)
          | (refine (HRT.out _ B0).mono ?_
             clear HRT
             rintro e w1 ⟨rfl, bb⟩
             have k31 := k30.below bb k30.lt
             have k61 := k60.below bb k60.lt
             have B1 := B0.trans (bb.mono B0.size)
             clear bb k30 k60 B0)
          | (refine wpList_load_row rfl 25 (.tmp 2) rfl w.heap.size rfl 25 (scC A m c A2 m2 c2) (0, 0) _ k31.blk Try.underlying25 rfl (sc_inf _ _ _ _ _ _) ?_)
          | (refine (HFR.out _ B1).mono ?_
             clear HFR
             rintro e w2 ⟨rfl, bb⟩
             have k32 := k31.below bb k31.lt
             have k62 := k61.below bb k61.lt
             have B2 := B1.trans (bb.mono B1.size)
             clear bb k31 k61 B1)
          | (refine wpList_store_blk rfl 52 (.tmp 6) (.tmp 18) rfl w2.heap.size (rnC rn0) (rnC x) 52 rfl rfl (Blk.new _ _ _) rfl (rn_inf x) (rn_one x) ?_
             intro w3 kb3 nb3
             have bb : Below w2.heap.size w2 w3 := ((Below.refl _ w2).alloc (Nat.le_refl _) _).trans (nb3.below _ (Nat.le_refl _) (by simp))
             have k33 := k32.below bb k32.lt
             have k63 := k62.below bb k62.lt
             have B3 := B2.trans (bb.mono B2.size)
             have q8 : w3.cell? ⟨w2.heap.size, 1, none⟩ = some (.int .i64 x.s) := kb3.cell 1
             clear bb nb3 kb3 k32 k62 B2))
        obtain ⟨wb, hwb3⟩ : ∃ wb, wb = w3 := ⟨_, rfl⟩
        have hb3 : Below wb.heap.size wb w3 := by rw [hwb3]; exact Below.refl _ _
        rw [← hwb3] at k33 k63 B3
        clear hwb3 q8
        have h3b := k33.lt
        have h6b := k63.lt
        have hwb := B3.size
        have hm8 : m ≤ 8 := HSM.out (by trivial)
        go_loopw [8, 9] (fun qv iv wr' => ∃ (k : Nat) (wr : World) (QA : Option Addr) (qm qc : Nat), wr = wr' ∧ k ≤ m ∧ iv = .int .i64 k ∧ qv = .slice QA qm qc ∧ Hid (RoR wr wb.heap.size QA qm qc ((R.take k).filter (fun y => y.i != id))) ∧ qm ≤ k ∧ Below wb.heap.size wb wr) (fun _ iv _ => m - (intOf iv).toNat)
        case atStart => exact ⟨0, _, none, 0, 0, rfl, Nat.zero_le _, rfl, rfl, Lib.hid (by rw [List.take_zero]; exact ro_nilR _ _), Nat.zero_le _, hb3⟩
        case round =>
          clear hb3
          obtain ⟨k, wr, QA, qm, qc, hwr, hk, rfl, rfl, HZ, hqm, hB⟩ := hrel
          subst hwr
          have qy : wr.cell? ⟨w.heap.size, 0, none⟩ = some (.slice A m c) := (k33.below hB h3b).cell 0
          by_cases hlt : k < m
          · have hlt' : (k : Int) < (m : Int) := by omega
            have hkl : k < R.length := by have := HM.out; omega
            obtain ⟨b, off, eb, hb, hc⟩ := (HS.out.rs.below (B3.trans (hB.mono hwb)) (Nat.le_refl _)) k hkl
            rw [eb] at qy
            clear eb
            have HTK := Lib.hid (take_filt rn0 (fun y => y.i != id) hkl)
            generalize R.getD k rn0 = y at hc HTK
            have hy0 : wr.cell? ⟨b, off + k * 3, none⟩ = some (.int .i64 y.i) := hc 0 _ rfl
            have Z := HZ.out
            clear HZ hkl
            cases hne : (y.i != id)
            · go_wp2_with fail
              go_roundw
              case rel => exact ⟨k + 1, _, QA, qm, qc, rfl, by omega, by go_num, rfl, Lib.hid (by rw [HTK.out, hne, if_neg (by simp), List.append_nil]; exact Z), by omega, hB⟩
              case measure => simp [intOf]; omega
            · have hcy : World.rangeAt wr b (off + k * 3) [.int .i64 y.i, .int .i64 y.s, .int .i64 y.n] := hc
              go_wp2_with (first
                | (refine wpList_load_mid rfl 52 (.tmp 46) rfl b (off + k * 3) rfl _ _ hcy Try.underlying52 rfl (rn_infL y) ?_)
                | (at_builtin; (change wpList Try.prog _ _ _ _ (wr.alloc (.cells (rnC y) 52))); (refine wpList_app1R rfl (.tmp 42) (.tmp 48) rfl wb.heap.size _ qm _ _ rfl (Z.below ((Below.refl _ wr).alloc (Nat.le_refl _) _) (Nat.le_refl _)) y wr.heap.size rfl (Blk.new wr (rnC y) 52).blk (by omega) (Nat.le_trans hB.size (by simp)) ?_)
                   intro A3 c3 w4 z3 hgr3 b3
                   have hB4 := (hB.trans (((Below.refl _ wr).alloc (Nat.le_refl _) (.cells (rnC y) 52)).mono hB.size)).trans b3
                   clear Z hgr3 b3))
              go_roundw
              case rel => exact ⟨k + 1, _, A3, qm + 1, c3, rfl, by omega, by go_num, rfl, Lib.hid (by rw [HTK.out, hne, if_pos rfl]; exact z3), by omega, hB4⟩
              case measure => simp [intOf]; omega
          · have hkm : m = k := by omega
            have zq := HZ.out
            rw [List.take_of_length_le (by have := HM.out; omega)] at zq
            have hklt : ¬ ((k : Int) < (m : Int)) := by omega
            have k3 := k33.below hB h3b
            have k6 := k63.below hB h6b
            have Bc := B3.trans (hB.mono hwb)
            have zq := zq.down hwb
            have f3 := k3.frozen 0
            clear HZ k33 k63 B3 hB hlt hkm
            have n7 : But w.heap.size wr (wr.setCell ⟨w.heap.size, 0, none⟩ (.slice QA qm qc)) := (But.refl w.heap.size wr).setCell (p := ⟨w.heap.size, 0, none⟩) (.inl rfl) _
            have k37 : Blk (wr.setCell ⟨w.heap.size, 0, none⟩ (.slice QA qm qc)) w.heap.size (scC QA qm qc A2 m2 c2) 25 := k3.set_ 0 _
            have k67 := n7.blk7 k6 (by omega)
            have rr7 : RoR _ w.heap.size QA qm qc _ := own_kind zq (grown_but n7) (fun g' e => by cases e; exact ⟨_, _, k3, by decide⟩)
            have B7 := Bc.trans (n7.below _ (Nat.le_refl _) Bc.size)
            have HZ := Lib.hid (And.intro k67 (And.intro rr7 B7))
            clear zq n7 k67 rr7 B7 k6 Bc k3
            go_wp2_with (first
              | (refine wpList_load_row rfl 25 (.tmp 2) rfl w.heap.size rfl 25 (scC QA qm qc A2 m2 c2) (0, 0) _ k37.blk Try.underlying25 rfl (sc_inf _ _ _ _ _ _) ?_)
              | (refine wpList_store_blk rfl 25 (.tmp 4) (.tmp 52) rfl (w.heap.size + 1) (scC none 0 0 none 0 0) (scC QA qm qc A2 m2 c2) 25 rfl rfl HZ.out.1 rfl (sc_inf _ _ _ _ _ _) (sc_one _ _ _ _ _ _) ?_
                 intro wz hz nz))
            have hzz := HZ.out
            have rrz : RoR wz w.heap.size QA qm qc (R.filter (fun y => y.i != id)) := own_kind hzz.2.1 (grown_but nz) (fun g' e => by cases e; exact ⟨_, _, hzz.1, by decide⟩)
            have Bz := hzz.2.2.trans (nz.below _ (by omega) hzz.2.2.size)
            have hsz := HS.out.on Bz
            refine bodyPost_ret (results_row_tmp rfl _ _ (w.heap.size + 1) 25 (scC QA qm qc A2 m2 c2) (0, 0) _ rfl hz.blk Try.underlying25 rfl (sc_inf _ _ _ _ _ _) _ rfl) rfl ?_
            exact ⟨_, by rw [HR.out]; rfl, by rw [HR.out]; exact ⟨QA, qm, qc, A2, m2, c2, L, rfl, ⟨rrz.rs, hsz.ks, hsz.q, rrz.len, hsz.len2, by omega, hsz.lim2⟩, rfl⟩, Bz⟩
      · have HR := Lib.hid (show r = ([], [], 2) by rw [HR0.out, if_pos rfl, if_pos rfl, if_pos (by rw [hs2])])
        clear HR0
        go_wp2_with (first
          | (refine wpList_load_row rfl 25 (.tmp 2) rfl w.heap.size rfl 25 (scC A m c A2 m2 c2) (0, 0) _ k30.blk Try.underlying25 rfl (sc_inf _ _ _ _ _ _) ?_)
          | (refine (HRT.out _ B0).mono ?_
             clear HRT
             rintro e w1 ⟨rfl, bb⟩
             have k31 := k30.below bb k30.lt
             have k61 := k60.below bb k60.lt
             have B1 := B0.trans (bb.mono B0.size)
             clear bb k30 k60 B0)
          | (refine wpList_load_row rfl 25 (.tmp 2) rfl w.heap.size rfl 25 (scC A m c A2 m2 c2) (0, 0) _ k31.blk Try.underlying25 rfl (sc_inf _ _ _ _ _ _) ?_)
          | (refine (HFR.out _ B1).mono ?_
             clear HFR
             rintro e w2 ⟨rfl, bb⟩
             have k32 := k31.below bb k31.lt
             have k62 := k61.below bb k61.lt
             have B2 := B1.trans (bb.mono B1.size)
             clear bb k31 k61 B1)
          | (refine wpList_store_blk rfl 52 (.tmp 6) (.tmp 18) rfl w2.heap.size (rnC rn0) (rnC x) 52 rfl rfl (Blk.new _ _ _) rfl (rn_inf x) (rn_one x) ?_
             intro w3 kb3 nb3
             have bb : Below w2.heap.size w2 w3 := ((Below.refl _ w2).alloc (Nat.le_refl _) _).trans (nb3.below _ (Nat.le_refl _) (by simp))
             have k33 := k32.below bb k32.lt
             have k63 := k62.below bb k62.lt
             have B3 := B2.trans (bb.mono B2.size)
             have q8 : w3.cell? ⟨w2.heap.size, 1, none⟩ = some (.int .i64 x.s) := kb3.cell 1
             clear bb nb3 kb3 k32 k62 B2)
          | (refine wpList_store_blk rfl 25 (.tmp 4) (.tmp 26) rfl (w.heap.size + 1) (scC none 0 0 none 0 0) (scC none 0 0 none 0 0) 25 rfl rfl k63 rfl (sc_inf _ _ _ _ _ _) (sc_one _ _ _ _ _ _) ?_
             intro wz hz nz
             have Bz := B3.trans (nz.below _ (by omega) B3.size)
             clear nz k63 k33 B3))
        refine bodyPost_ret (results_row_tmp rfl _ _ (w.heap.size + 1) 25 (scC none 0 0 none 0 0) (0, 0) _ rfl hz.blk Try.underlying25 rfl (sc_inf _ _ _ _ _ _) _ rfl) rfl ?_
        exact ⟨_, by rw [HR.out]; rfl, by rw [HR.out]; exact scQ_nil wz, Bz⟩
end Go.Proofs.Ytfohifnbohdbcaa
