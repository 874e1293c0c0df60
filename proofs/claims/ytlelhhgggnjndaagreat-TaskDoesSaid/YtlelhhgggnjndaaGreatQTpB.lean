/-
  task.bequeath: what it leaves (plain), and its first loop's step.
-/
import Derived.Test.YtlelhhgggnjndaaGreatQTpF
import Derived.Test.YtlelhhgggnjndaaGreatQTpV
import Derived.Test.YtlelhhgggnjndaaGreatQTkRc
import Derived.Test.YtlelhhgggnjndaaGreatQPiT
import Derived.Test.YtlelhhgggnjndaaGreatQTkB
import Derived.Test.YtlelhhgggnjndaaGreatQTpM
import Derived.Test.YtlelhhgggnjndaaGreatQTpQ
import Derived.Test.YtlelhhgggnjndaaGreatQTqO
import Derived.Test.YtlelhhgggnjndaaGreatQPiSh
import Derived.BigQuiet
namespace Go.Proofs.YtlelhhgggnjndaaGreat
open Go.RowKit Go.Shelf
set_option linter.unusedVariables false
set_option linter.unusedSimpArgs false
def kidN (P : List Pn) (pid : Int) : List Int := (P.filter fun x => x.p == pid && pid != 0).map (·.i)
theorem kid_names (L : List Pw) (pid : Int) : kidF L pid = kidN (L.map (·.1)) pid := by
  unfold kidF kidN
  rw [List.filter_map, List.map_map]
  rfl
theorem kid_mem {P : List Pn} {pid q : Int} (h : q ∈ kidN P pid) : q ∈ P.map (·.i) := by
  unfold kidN at h
  obtain ⟨x, hx, rfl⟩ := List.mem_map.1 h
  exact List.mem_map.2 ⟨x, (List.mem_filter.1 hx).1, rfl⟩
def endQ (P : List Pn) (q : Int) : Bool := (P.getD (lessP (P.map (·.i)) q) pn0).t.length == 0
def reapR (a : Int) (U : List Int) (P : List Pn) (p : Nat) : TkA :=
  if (sortZ (kidN P (P.getD p pn0).i)).length = 0 then noT 27 else match (sortZ (kidN P (P.getD p pn0).i)).find? (endQ P) with
    | none => noT 24
    | some q => ⟨(freeV a U q).1, (freeV a U q).2.1, delL (lessP (P.map (·.i)) q) P, q, 0⟩
theorem del_names {k : Nat} {L : List Pw} : (delL k L).map (·.1) = delL k (L.map (·.1)) := by unfold delL; rw [List.map_append, List.map_take, List.map_drop]
theorem cnt_del {k : Nat} {P : List Pn} : cntT (delL k P) ≤ cntT P := by
  have h : cntT P = cntT (P.take k) + cntT (P.drop k) := by
    conv => lhs; rw [← List.take_append_drop k P]
    simp only [cntT, List.map_append, List.sum_append]
  have h2 : cntT (P.drop k) = cntT ((P.drop k).take 1) + cntT (P.drop (k + 1)) := by
    conv => lhs; rw [← List.take_append_drop 1 (P.drop k), List.drop_drop]
    simp only [cntT, List.map_append, List.sum_append]
  have h3 : cntT (delL k P) = cntT (P.take k) + cntT (P.drop (k + 1)) := by unfold delL; simp only [cntT, List.map_append, List.sum_append]
  omega
theorem find_hit {P : List Pn} {l : List Int} {j : Nat} (hj : j < l.length) (h : ∀ q ∈ l.take j, endQ P q = false) (h1 : endQ P (l.getD j 0) = true) : l.find? (endQ P) = some (l.getD j 0) := by
  have e : l = l.take j ++ l.getD j 0 :: l.drop (j + 1) := by rw [show l.getD j 0 = l[j] by simp [List.getD, hj], ← List.drop_eq_getElem_cons hj, List.take_append_drop]
  conv => lhs; rw [e]
  rw [List.find?_append, List.find?_eq_none.2 (fun y hy => by rw [h y hy]; simp), List.find?_cons_of_pos h1]
  rfl
set_option maxRecDepth 100000 in
set_option maxHeartbeats 8000000 in
theorem reap1_tk (a : Int) (U : List Int) (P : List Pn) (p : Nat) (hp : p < P.length) (hpu : (P.map (·.i)).Pairwise (· < ·)) (hc : cntT P ≤ 8) (hP6 : P.length ≤ 6) : DoT 71 #[] (fun _ _ => True) a U P p (reapR a U P p) := by
  intro V B g Ua um uc A m c L _ hLP own tk kg hBg
  have hpl : p < L.length := by rw [← hLP] at hp; simpa using hp
  have hgV := kg.lt
  have hBV : B ≤ V.heap.size := Nat.le_trans hBg (Nat.le_of_lt hgV)
  have hnm : (P.getD p pn0) = (L.getD p pw0).1 := by rw [← hLP]; exact getD_name p
  obtain ⟨gP, hA, hgP, hgPl⟩ := own.p.at0 (by omega)
  subst hA
  obtain ⟨x, hx⟩ : ∃ x, L.getD p pw0 = x := ⟨_, rfl⟩
  rw [hx] at hnm
  unfold reapR
  rw [hnm]
  have hm : (p : Int) < (m : Int) := by have := own.p.len; omega
  have hids : idsP L = P.map (·.i) := by rw [idsP_names, hLP]
  have hkn : kidF L x.1.i = kidN P x.1.i := by rw [kid_names, hLP]
  have HMEM := Lib.hid (fun q (h : q ∈ sortZ (kidN P x.1.i)) => kid_mem (sortZ_mem.1 h))
  obtain ⟨ks, hks⟩ : ∃ ks, sortZ (kidN P x.1.i) = ks := ⟨_, rfl⟩
  rw [← hids] at hpu
  rw [hks] at HMEM ⊢
  rw [← hkn] at hks
  obtain ⟨r, hr⟩ : ∃ r : TkA, (if ks.length = 0 then noT 27 else match ks.find? (endQ P) with | none => noT 24 | some q => ⟨(freeV a U q).1, (freeV a U q).2.1, delL (lessP (P.map (·.i)) q) P, q, 0⟩) = r := ⟨_, rfl⟩
  rw [hr]
  have HR := Lib.hid hr
  have HKS := Lib.hid hks
  have HTK := Lib.hid tk
  have HX := Lib.hid hx
  have HPL := Lib.hid (And.intro hpl (And.intro hLP (And.intro hids (And.intro hc hP6))))
  have HPU := Lib.hid hpu
  have HTR := Lib.hid (fun (W : World) (o : OwnT W B Ua um uc U (some ⟨gP, 0, none⟩) m c L) => (show Ps W W.heap.size (some ⟨gP, 0, none⟩) L from ⟨fun k hk => o.p.rs k hk, fun y hy => zo_tr (o.q y hy) (by have := tk.p.tr y hy; exact this.l)⟩))
  have HM0 := Lib.hid (show FkM V V B g a Ua um uc U (some ⟨gP, 0, none⟩) m c L from ⟨kg, own, Below.refl _ _⟩)
  have hml := own.p.len
  have hm7 : m ≤ 100000 := tk.p6
  have HML := Lib.hid hml
  clear own tk kg hx hpl hLP hpu hnm hp hids hc hP6 hks hkn hml hr
  go_enter Tryz.func71, Tryz.ntmps71
  go_wp2_with fail
  try simp only [Act.put]
  refine region_cutP ?_
  have J : True := trivial
  have F : FkM V V.drew B g a Ua um uc U (some ⟨gP, 0, none⟩) m c L := HM0.out.step (Below.refl _ _).drew hBV
  refine wp_region_held_drew (S := fun _ => True) (by kernel_rfl) J (fun _ => ?_)
  have hsW : V.heap.size ≤ V.drew.heap.size := Nat.le_refl _
  generalize V.drew = W0 at F hsW ⊢
  have hBW : B ≤ W0.heap.size := Nat.le_trans hBV hsW
  clear HM0
  refine wpAnyH_take (i := 0) (v := .pointer (some ⟨g, 0, none⟩)) rfl (by kernel_rfl) (by kernel_rfl) (by kernel_rfl) (fun _ _ _ h => nomatch h.1) (.inl ⟨by rfl, fun V hV => by go_simp⟩) J ?_
  try simp only [Act.put, qA, qB, qC, qD, qE, qF]
  refine wpAnyH_take (i := 3) (v := .pointer (some ⟨g, 0, none⟩)) rfl (by kernel_rfl) (by kernel_rfl) (by kernel_rfl) (fun _ _ _ h => nomatch h.1) (.inl ⟨by rfl, fun V hV => by go_simp⟩) J ?_
  try simp only [Act.put, qA, qB, qC, qD, qE, qF]
  refine wpAnyH_take (i := 7) (v := .int .i64 p) rfl (by kernel_rfl) (by kernel_rfl) (by kernel_rfl) (fun _ _ _ h => nomatch h.1) (.inl ⟨by rfl, fun V hV => by go_simp⟩) J ?_
  try simp only [Act.put, qA, qB, qC, qD, qE, qF]
  refine wpAnyH_take (i := 1) (v := .pointer (some ⟨g, 0, none⟩)) rfl (by kernel_rfl) (by kernel_rfl) (by kernel_rfl) (fun _ _ _ h => nomatch h.1) (.inl ⟨by rfl, fun V hV => by go_simp⟩) J ?_
  try simp only [Act.put, qA, qB, qC, qD, qE, qF]
  refine wpAnyH_take (i := 4) (v := .pointer (some ⟨g, 0, none⟩)) rfl (by kernel_rfl) (by kernel_rfl) (by kernel_rfl) (fun _ _ _ h => nomatch h.1) (.inl ⟨by rfl, fun V hV => by go_simp⟩) J ?_
  try simp only [Act.put, qA, qB, qC, qD, qE, qF]
  refine wpAnyH_take (i := 5) (v := .pointer (some ⟨g, 2, none⟩)) rfl (by kernel_rfl) (by kernel_rfl) (by kernel_rfl) (fun _ _ _ h => nomatch h.1) (.inl ⟨by rfl, fun V hV => by go_simp⟩) J ?_
  try simp only [Act.put, qA, qB, qC, qD, qE, qF]
  refine wpAnyH_ready (rs := [2, 6]) (by kernel_rfl) (by simp) ?_
  refine AllReadyH.cons rfl (fun K hK => ?_) (AllReadyH.cons rfl (fun K hK => ?_) AllReadyH.nil)
  · try simp only [Act.put, qA, qB, qC, qD, qE, qF]
    refine wp_load_row 27 (.tmp 12) rfl g rfl 27 (tkC a Ua um uc (some ⟨gP, 0, none⟩) m c) (0, 0) _ F.kg.blk Tryz.underlying27 rfl (tk_inf _ _ _ _ _ _ _) ?_
    refine hK.out _ _ J (fun _ => ?_)
    clear hK K
    try simp only [Act.put, qA, qB, qC, qD, qE, qF]
    refine wpAnyH_ready (rs := [6]) (by kernel_rfl) (by simp) ?_
    refine AllReadyH.cons rfl (fun K hK => ?_) AllReadyH.nil
    try simp only [Act.put, qA, qB, qC, qD, qE, qF]
    have qq := F.kg.cell 2
    change _ = some (Value.slice (some ⟨gP, 0, none⟩) m c) at qq
    go_simp
    clear qq
    refine hK.out _ _ J (fun _ => ?_)
    clear hK K
    try simp only [Act.put, qA, qB, qC, qD, qE, qF]
    refine wpAnyH_take (i := 8) (v := .pointer (some ⟨gP, p * 3, none⟩)) rfl (by kernel_rfl) (by kernel_rfl) (by kernel_rfl) (fun _ _ _ h => nomatch h.1) (.inl ⟨by rfl, fun V hV => by go_simp⟩) J ?_
    try simp only [Act.put, qA, qB, qC, qD, qE, qF]
    refine wpAnyH_take (i := 9) (v := .pointer (some ⟨gP, p * 3, none⟩)) rfl (by kernel_rfl) (by kernel_rfl) (by kernel_rfl) (fun _ _ _ h => nomatch h.1) (.inl ⟨by rfl, fun V hV => by go_simp⟩) J ?_
    try simp only [Act.put, qA, qB, qC, qD, qE, qF]
    refine wpAnyH_ready (rs := [10]) (by kernel_rfl) (by simp) ?_
    refine AllReadyH.cons rfl (fun K hK => ?_) AllReadyH.nil
    try simp only [Act.put, qA, qB, qC, qD, qE, qF]
    obtain ⟨b7, off7, he7, hb7, hc7⟩ := F.own.p.rs p HPL.out.1
    cases he7
    rw [HX.out, Nat.zero_add] at hc7
    have qq := hc7 0 _ rfl
    rw [Nat.add_zero] at qq
    change _ = some (Value.int .i64 x.1.i) at qq
    go_simp
    clear qq hc7 hb7
    refine hK.out _ _ J (fun _ => ?_)
    clear hK K
    try simp only [Act.put, qA, qB, qC, qD, qE, qF]
    refine wpAnyH_ready (rs := [11]) (by kernel_rfl) (by simp) ?_
    refine AllReadyH.cons rfl (fun K hK => ?_) AllReadyH.nil
    try simp only [Act.put, qA, qB, qC, qD, qE, qF]
    go_simp
    refine (children_any a Ua um uc (some ⟨gP, 0, none⟩) m c L x.1.i W0 (HTR.out W0 F.own) HML.out (by omega)).mono ?_
    rintro e W1 ⟨G, gm, gc, rfl, zk, bb⟩
    go_wp2_with fail
    rw [HKS.out] at zk
    have F := F.step bb hBW
    have zk := zk.down hsW
    have hBW := Nat.le_trans hBW bb.size
    clear bb
    refine hK.out _ _ J (fun _ => ?_)
    clear hK K
    try simp only [Act.put, qA, qB, qC, qD, qE, qF]
    refine wpAnyH_take (i := 12) (v := .slice G gm gc) rfl (by kernel_rfl) (by kernel_rfl) (by kernel_rfl) (fun _ _ _ h => nomatch h.1) (.inl ⟨by rfl, fun V hV => by go_simp⟩) J ?_
    try simp only [Act.put, qA, qB, qC, qD, qE, qF]
    refine wpAnyH_done (by kernel_rfl) ?_ _
    refine ⟨rfl, ?_⟩
    clear J
    have HZK := Lib.hid zk
    have HM1 := Lib.hid F
    have hgk := zk.len
    have hk6 : gm ≤ 1000000 := by rw [hgk, ← HKS.out, sortZ_len]; have := kidF_len L x.1.i; have := HML.out; omega
    clear zk F
    by_cases hk0 : ks.length = 0
    · have hg0 : gm = 0 := by omega
      have hgb : ((gm : Int) == 0) = true := by rw [hg0]; rfl
      have hr := HR.out
      rw [if_pos hk0] at hr
      subst hr
      clear hk0 hgk HR
      go_wp2_with fail
      refine bodyPost_ret (results_tmp2 rfl _ _ _) rfl ?_
      exact ⟨rfl, HM1.out.b, fun h => absurd h (by show ¬ (27 : Int) = 0; decide)⟩
    · have hgb : ((gm : Int) == 0) = false := by simp; omega
      have hr := HR.out
      rw [if_neg hk0] at hr
      have HR2 := Lib.hid hr
      clear hk0 hr HR
      have HGK := Lib.hid hgk
      clear hgk
      go_wp2_with fail
      go_loopw [28] (fun iv wr' => ∃ (j : Nat) (W : World), W = wr' ∧ j ≤ gm ∧ iv = .int .i64 j ∧ Hid (FkM V W B g a Ua um uc U (some ⟨gP, 0, none⟩) m c L ∧ Zo W V.heap.size G gm gc ks ∧ ∀ q ∈ ks.take j, endQ P q = false)) (fun iv _ => gm - (intOf iv).toNat)
      case atStart => exact ⟨0, _, rfl, Nat.zero_le _, rfl, Lib.hid ⟨HM1.out, HZK.out, fun q h => by simp at h⟩⟩
      case round =>
        clear HM1 HZK hgb
        obtain ⟨j, W, hww, hj, rfl, HJ⟩ := hrel
        subst hww
        by_cases hlt : j < gm
        · have hlt' : (j : Int) < (gm : Int) := by omega
          have hjk : j < ks.length := by have := HGK.out; omega
          obtain ⟨b, off, rfl, hb, hcell⟩ := HJ.out.2.1.ri j hjk
          have hqm : ks.getD j 0 ∈ P.map (·.i) := HMEM.out _ (by rw [show ks.getD j 0 = ks[j] by simp [List.getD, hjk]]; exact List.getElem_mem _)
          have hhit := Lib.hid (fun h1 => find_hit (P := P) hjk HJ.out.2.2 h1)
          have hnext : endQ P (ks.getD j 0) = false → ∀ q ∈ ks.take (j + 1), endQ P q = false := fun h1 q hq => by
            rw [take_snocT hjk] at hq
            rcases List.mem_append.1 hq with hq | hq
            · exact HJ.out.2.2 q hq
            · rw [List.mem_singleton.1 hq]; exact h1
          have HNX := Lib.hid hnext
          have hlg := less_get HPU.out (by rw [HPL.out.2.2.1]; exact hqm)
          have heq : endQ P (ks.getD j 0) = ((L.getD (lessP (idsP L) (ks.getD j 0)) pw0).1.t.length == 0) := by unfold endQ; rw [← HPL.out.2.1, getD_name, ← idsP_names]
          have hct : (idsP L).contains (ks.getD j 0) = true := by rw [HPL.out.2.2.1]; simpa using hqm
          have HPC := Lib.hid (place_tk a Ua um uc (some ⟨gP, 0, none⟩) m c L (ks.getD j 0) W (HTR.out W HJ.out.1.own) HML.out (by omega) HPU.out)
          unfold tkV at HPC
          rw [hct] at HPC
          rw [idsP_getD (by simpa [idsP] using hlg.1)] at hlg
          have hlm : lessP (idsP L) (ks.getD j 0) < L.length := by simpa [idsP] using hlg.1
          generalize ks.getD j 0 = q at hcell hhit HNX heq HPC hlg hlm
          generalize hto : lessP (idsP L) q = tq at heq HPC hlg hlm
          have HTO := Lib.hid hto
          obtain ⟨b7, off7, he7, hb7, hc7⟩ := HJ.out.1.own.p.rs tq hlm
          cases he7
          rw [Nat.zero_add] at hc7
          obtain ⟨y, hy⟩ : ∃ y, L.getD tq pw0 = y := ⟨_, rfl⟩
          rw [hy] at heq hc7 hlg
          have HY := Lib.hid (And.intro hy (And.intro hlm hlg.2))
          have htm : (tq : Int) < (m : Int) := by have := HML.out; omega
          have HENQ := Lib.hid heq
          have HEN := Lib.hid (fun V' => ended_tk y V')
          have kgW := HJ.out.1.kg
          have q2 : W.cell? ⟨g, 2, none⟩ = some (.slice (some ⟨gP, 0, none⟩) m c) := kgW.cell 2
          unfold prV at HEN
          have hBW : B ≤ W.heap.size := Nat.le_trans hBV HJ.out.1.b.size
          have hVW := HJ.out.1.b.size
          clear hqm hnext heq hct hlg hlm hy hto hjk
          generalize (y.1.t.length == 0) = eb at HENQ HEN
          cases eb
          · go_wp2_with (first
              | (refine wpList_load_row rfl 27 (.tmp 34) rfl g rfl 27 (tkC a Ua um uc (some ⟨gP, 0, none⟩) m c) (0, 0) _ kgW.blk Tryz.underlying27 rfl (tk_inf _ _ _ _ _ _ _) ?_)
              | (refine HPC.out.mono ?_
                 clear HPC
                 rintro e W1 ⟨rfl, bb⟩
                 have HJ1 := Lib.hid (And.intro (HJ.out.1.step bb hBW) (HJ.out.2.1.below bb (Nat.le_refl _)))
                 have hc71 : W1.rangeAt gP (tq * 3) (prC y).toList := range_belowT hc7 bb hb7
                 have q3 : W1.cell? ⟨g, 2, none⟩ = some (.slice (some ⟨gP, 0, none⟩) m c) := (kgW.below bb kgW.lt).cell 2
                 have hBW1 := Nat.le_trans hBW bb.size
                 clear bb hcell)
              | (refine wpListG_load_mid (by rfl) 49 (.tmp 45) rfl gP (tq * 3) rfl (prC y).toList _ hc71 Tryz.underlying49 rfl (pr_infL y) ?_)
              | (refine (HEN.out _).mono ?_
                 clear HEN
                 rintro e W2 ⟨rfl, bb⟩
                 have HJ2 := Lib.hid (And.intro (HJ1.out.1.step bb hBW1) (HJ1.out.2.below bb (Nat.le_refl _)))
                 clear bb hc71))
            go_roundw
            case rel => exact ⟨j + 1, _, rfl, by omega, by go_num, Lib.hid ⟨HJ2.out.1, HJ2.out.2, HNX.out HENQ.out⟩⟩
            case measure => simp [intOf]; omega
          · have HH := Lib.hid (hhit.out HENQ.out)
            go_wp2_with (first
              | (refine wpList_load_row rfl 27 (.tmp 34) rfl g rfl 27 (tkC a Ua um uc (some ⟨gP, 0, none⟩) m c) (0, 0) _ kgW.blk Tryz.underlying27 rfl (tk_inf _ _ _ _ _ _ _) ?_)
              | (refine HPC.out.mono ?_
                 clear HPC
                 rintro e W1 ⟨rfl, bb⟩
                 have HJ1 := Lib.hid (HJ.out.1.step bb hBW)
                 have hc71 : W1.rangeAt gP (tq * 3) (prC y).toList := range_belowT hc7 bb hb7
                 have q3 : W1.cell? ⟨g, 2, none⟩ = some (.slice (some ⟨gP, 0, none⟩) m c) := (kgW.below bb kgW.lt).cell 2
                 have hBW1 := Nat.le_trans hBW bb.size
                 clear bb hcell)
              | (refine wpListG_load_mid (by rfl) 49 (.tmp 45) rfl gP (tq * 3) rfl (prC y).toList _ hc71 Tryz.underlying49 rfl (pr_infL y) ?_)
              | (refine (HEN.out _).mono ?_
                 clear HEN
                 rintro e W2 ⟨rfl, bb⟩
                 have HJ2 := Lib.hid (HJ1.out.step bb hBW1)
                 have RM := Lib.hid (remove_tk a W2 B g Ua um uc U gP m c L tq HJ2.out.own HJ2.out.kg hBg HY.out.2.1 HTK.out.u6 hm7)
                 clear bb hc71)
              | (refine RM.out.mono ?_
                 clear RM
                 rintro e W3 ⟨rfl, Ua3, um3, uc3, a3, l3, er3, hv, kg3, own3, b3⟩))
            refine bodyPost_ret (results_tmp2 rfl _ _ _) rfl ?_
            rw [HY.out.1, HY.out.2.2] at hv
            have hr := HR2.out
            rw [HH.out] at hr
            simp only [hv] at hr
            subst hr
            have hl3 := freeV_len a U q
            rw [hv] at hl3
            have hul := own3.u.len
            have hu6 := HTK.out.u6
            have hul2 := HTK.out.ul
            have hnames : (delL tq L).map (·.1) = delL tq P := by rw [del_names, HPL.out.2.1]
            have hcd := cnt_del (k := tq) (P := P)
            have hc8 := HPL.out.2.2.2.1
            exact ⟨rfl, HJ2.out.b.trans b3, fun _ => ⟨Ua3, um3, uc3, _, m - 1, c, _, kg3, own3.tk (by simp only at hl3; omega) (by omega) (fun z hz => by
              have := cnt_le (P := delL tq P) (x := z.1) (by rw [← hnames]; exact List.mem_map.2 ⟨z, hz, rfl⟩)
              omega) (by rw [thr_cnt, hnames]; omega), hnames.trans (by rw [← HPL.out.2.2.1, HTO.out]), own3⟩⟩
        · obtain rfl : j = gm := by omega
          have hge : ¬ ((j : Int) < (j : Int)) := by omega
          have hf : ks.find? (endQ P) = none := List.find?_eq_none.2 (fun q hq => by
            have := HJ.out.2.2 q (by rw [HGK.out, List.take_length]; exact hq)
            rw [this]; simp)
          have hr := HR2.out
          rw [hf] at hr
          simp only at hr
          subst hr
          clear hf HR2
          go_wp2_with fail
          refine bodyPost_ret (results_tmp2 rfl _ _ _) rfl ?_
          exact ⟨rfl, HJ.out.1.b, fun h => absurd h (by show ¬ (24 : Int) = 0; decide)⟩
  · try simp only [Act.put, qA, qB, qC, qD, qE, qF]
    have qq := F.kg.cell 2
    change _ = some (Value.slice (some ⟨gP, 0, none⟩) m c) at qq
    go_simp
    clear qq
    refine hK.out _ _ J (fun _ => ?_)
    clear hK K
    try simp only [Act.put, qA, qB, qC, qD, qE, qF]
    refine wpAnyH_take (i := 8) (v := .pointer (some ⟨gP, p * 3, none⟩)) rfl (by kernel_rfl) (by kernel_rfl) (by kernel_rfl) (fun _ _ _ h => nomatch h.1) (.inl ⟨by rfl, fun V hV => by go_simp⟩) J ?_
    try simp only [Act.put, qA, qB, qC, qD, qE, qF]
    refine wpAnyH_take (i := 9) (v := .pointer (some ⟨gP, p * 3, none⟩)) rfl (by kernel_rfl) (by kernel_rfl) (by kernel_rfl) (fun _ _ _ h => nomatch h.1) (.inl ⟨by rfl, fun V hV => by go_simp⟩) J ?_
    try simp only [Act.put, qA, qB, qC, qD, qE, qF]
    refine wpAnyH_ready (rs := [2, 10]) (by kernel_rfl) (by simp) ?_
    refine AllReadyH.cons rfl (fun K hK => ?_) (AllReadyH.cons rfl (fun K hK => ?_) AllReadyH.nil)
    · try simp only [Act.put, qA, qB, qC, qD, qE, qF]
      refine wp_load_row 27 (.tmp 12) rfl g rfl 27 (tkC a Ua um uc (some ⟨gP, 0, none⟩) m c) (0, 0) _ F.kg.blk Tryz.underlying27 rfl (tk_inf _ _ _ _ _ _ _) ?_
      refine hK.out _ _ J (fun _ => ?_)
      clear hK K
      try simp only [Act.put, qA, qB, qC, qD, qE, qF]
      refine wpAnyH_ready (rs := [10]) (by kernel_rfl) (by simp) ?_
      refine AllReadyH.cons rfl (fun K hK => ?_) AllReadyH.nil
      try simp only [Act.put, qA, qB, qC, qD, qE, qF]
      obtain ⟨b7, off7, he7, hb7, hc7⟩ := F.own.p.rs p HPL.out.1
      cases he7
      rw [HX.out, Nat.zero_add] at hc7
      have qq := hc7 0 _ rfl
      rw [Nat.add_zero] at qq
      change _ = some (Value.int .i64 x.1.i) at qq
      go_simp
      clear qq hc7 hb7
      refine hK.out _ _ J (fun _ => ?_)
      clear hK K
      try simp only [Act.put, qA, qB, qC, qD, qE, qF]
      refine wpAnyH_ready (rs := [11]) (by kernel_rfl) (by simp) ?_
      refine AllReadyH.cons rfl (fun K hK => ?_) AllReadyH.nil
      try simp only [Act.put, qA, qB, qC, qD, qE, qF]
      go_simp
      refine (children_any a Ua um uc (some ⟨gP, 0, none⟩) m c L x.1.i W0 (HTR.out W0 F.own) HML.out (by omega)).mono ?_
      rintro e W1 ⟨G, gm, gc, rfl, zk, bb⟩
      go_wp2_with fail
      rw [HKS.out] at zk
      have F := F.step bb hBW
      have zk := zk.down hsW
      have hBW := Nat.le_trans hBW bb.size
      clear bb
      refine hK.out _ _ J (fun _ => ?_)
      clear hK K
      try simp only [Act.put, qA, qB, qC, qD, qE, qF]
      refine wpAnyH_take (i := 12) (v := .slice G gm gc) rfl (by kernel_rfl) (by kernel_rfl) (by kernel_rfl) (fun _ _ _ h => nomatch h.1) (.inl ⟨by rfl, fun V hV => by go_simp⟩) J ?_
      try simp only [Act.put, qA, qB, qC, qD, qE, qF]
      refine wpAnyH_done (by kernel_rfl) ?_ _
      refine ⟨rfl, ?_⟩
      clear J
      have HZK := Lib.hid zk
      have HM1 := Lib.hid F
      have hgk := zk.len
      have hk6 : gm ≤ 1000000 := by rw [hgk, ← HKS.out, sortZ_len]; have := kidF_len L x.1.i; have := HML.out; omega
      clear zk F
      by_cases hk0 : ks.length = 0
      · have hg0 : gm = 0 := by omega
        have hgb : ((gm : Int) == 0) = true := by rw [hg0]; rfl
        have hr := HR.out
        rw [if_pos hk0] at hr
        subst hr
        clear hk0 hgk HR
        go_wp2_with fail
        refine bodyPost_ret (results_tmp2 rfl _ _ _) rfl ?_
        exact ⟨rfl, HM1.out.b, fun h => absurd h (by show ¬ (27 : Int) = 0; decide)⟩
      · have hgb : ((gm : Int) == 0) = false := by simp; omega
        have hr := HR.out
        rw [if_neg hk0] at hr
        have HR2 := Lib.hid hr
        clear hk0 hr HR
        have HGK := Lib.hid hgk
        clear hgk
        go_wp2_with fail
        go_loopw [28] (fun iv wr' => ∃ (j : Nat) (W : World), W = wr' ∧ j ≤ gm ∧ iv = .int .i64 j ∧ Hid (FkM V W B g a Ua um uc U (some ⟨gP, 0, none⟩) m c L ∧ Zo W V.heap.size G gm gc ks ∧ ∀ q ∈ ks.take j, endQ P q = false)) (fun iv _ => gm - (intOf iv).toNat)
        case atStart => exact ⟨0, _, rfl, Nat.zero_le _, rfl, Lib.hid ⟨HM1.out, HZK.out, fun q h => by simp at h⟩⟩
        case round =>
          clear HM1 HZK hgb
          obtain ⟨j, W, hww, hj, rfl, HJ⟩ := hrel
          subst hww
          by_cases hlt : j < gm
          · have hlt' : (j : Int) < (gm : Int) := by omega
            have hjk : j < ks.length := by have := HGK.out; omega
            obtain ⟨b, off, rfl, hb, hcell⟩ := HJ.out.2.1.ri j hjk
            have hqm : ks.getD j 0 ∈ P.map (·.i) := HMEM.out _ (by rw [show ks.getD j 0 = ks[j] by simp [List.getD, hjk]]; exact List.getElem_mem _)
            have hhit := Lib.hid (fun h1 => find_hit (P := P) hjk HJ.out.2.2 h1)
            have hnext : endQ P (ks.getD j 0) = false → ∀ q ∈ ks.take (j + 1), endQ P q = false := fun h1 q hq => by
              rw [take_snocT hjk] at hq
              rcases List.mem_append.1 hq with hq | hq
              · exact HJ.out.2.2 q hq
              · rw [List.mem_singleton.1 hq]; exact h1
            have HNX := Lib.hid hnext
            have hlg := less_get HPU.out (by rw [HPL.out.2.2.1]; exact hqm)
            have heq : endQ P (ks.getD j 0) = ((L.getD (lessP (idsP L) (ks.getD j 0)) pw0).1.t.length == 0) := by unfold endQ; rw [← HPL.out.2.1, getD_name, ← idsP_names]
            have hct : (idsP L).contains (ks.getD j 0) = true := by rw [HPL.out.2.2.1]; simpa using hqm
            have HPC := Lib.hid (place_tk a Ua um uc (some ⟨gP, 0, none⟩) m c L (ks.getD j 0) W (HTR.out W HJ.out.1.own) HML.out (by omega) HPU.out)
            unfold tkV at HPC
            rw [hct] at HPC
            rw [idsP_getD (by simpa [idsP] using hlg.1)] at hlg
            have hlm : lessP (idsP L) (ks.getD j 0) < L.length := by simpa [idsP] using hlg.1
            generalize ks.getD j 0 = q at hcell hhit HNX heq HPC hlg hlm
            generalize hto : lessP (idsP L) q = tq at heq HPC hlg hlm
            have HTO := Lib.hid hto
            obtain ⟨b7, off7, he7, hb7, hc7⟩ := HJ.out.1.own.p.rs tq hlm
            cases he7
            rw [Nat.zero_add] at hc7
            obtain ⟨y, hy⟩ : ∃ y, L.getD tq pw0 = y := ⟨_, rfl⟩
            rw [hy] at heq hc7 hlg
            have HY := Lib.hid (And.intro hy (And.intro hlm hlg.2))
            have htm : (tq : Int) < (m : Int) := by have := HML.out; omega
            have HENQ := Lib.hid heq
            have HEN := Lib.hid (fun V' => ended_tk y V')
            have kgW := HJ.out.1.kg
            have q2 : W.cell? ⟨g, 2, none⟩ = some (.slice (some ⟨gP, 0, none⟩) m c) := kgW.cell 2
            unfold prV at HEN
            have hBW : B ≤ W.heap.size := Nat.le_trans hBV HJ.out.1.b.size
            have hVW := HJ.out.1.b.size
            clear hqm hnext heq hct hlg hlm hy hto hjk
            generalize (y.1.t.length == 0) = eb at HENQ HEN
            cases eb
            · go_wp2_with (first
                | (refine wpList_load_row rfl 27 (.tmp 34) rfl g rfl 27 (tkC a Ua um uc (some ⟨gP, 0, none⟩) m c) (0, 0) _ kgW.blk Tryz.underlying27 rfl (tk_inf _ _ _ _ _ _ _) ?_)
                | (refine HPC.out.mono ?_
                   clear HPC
                   rintro e W1 ⟨rfl, bb⟩
                   have HJ1 := Lib.hid (And.intro (HJ.out.1.step bb hBW) (HJ.out.2.1.below bb (Nat.le_refl _)))
                   have hc71 : W1.rangeAt gP (tq * 3) (prC y).toList := range_belowT hc7 bb hb7
                   have q3 : W1.cell? ⟨g, 2, none⟩ = some (.slice (some ⟨gP, 0, none⟩) m c) := (kgW.below bb kgW.lt).cell 2
                   have hBW1 := Nat.le_trans hBW bb.size
                   clear bb hcell)
                | (refine wpListG_load_mid (by rfl) 49 (.tmp 45) rfl gP (tq * 3) rfl (prC y).toList _ hc71 Tryz.underlying49 rfl (pr_infL y) ?_)
                | (refine (HEN.out _).mono ?_
                   clear HEN
                   rintro e W2 ⟨rfl, bb⟩
                   have HJ2 := Lib.hid (And.intro (HJ1.out.1.step bb hBW1) (HJ1.out.2.below bb (Nat.le_refl _)))
                   clear bb hc71))
              go_roundw
              case rel => exact ⟨j + 1, _, rfl, by omega, by go_num, Lib.hid ⟨HJ2.out.1, HJ2.out.2, HNX.out HENQ.out⟩⟩
              case measure => simp [intOf]; omega
            · have HH := Lib.hid (hhit.out HENQ.out)
              go_wp2_with (first
                | (refine wpList_load_row rfl 27 (.tmp 34) rfl g rfl 27 (tkC a Ua um uc (some ⟨gP, 0, none⟩) m c) (0, 0) _ kgW.blk Tryz.underlying27 rfl (tk_inf _ _ _ _ _ _ _) ?_)
                | (refine HPC.out.mono ?_
                   clear HPC
                   rintro e W1 ⟨rfl, bb⟩
                   have HJ1 := Lib.hid (HJ.out.1.step bb hBW)
                   have hc71 : W1.rangeAt gP (tq * 3) (prC y).toList := range_belowT hc7 bb hb7
                   have q3 : W1.cell? ⟨g, 2, none⟩ = some (.slice (some ⟨gP, 0, none⟩) m c) := (kgW.below bb kgW.lt).cell 2
                   have hBW1 := Nat.le_trans hBW bb.size
                   clear bb hcell)
                | (refine wpListG_load_mid (by rfl) 49 (.tmp 45) rfl gP (tq * 3) rfl (prC y).toList _ hc71 Tryz.underlying49 rfl (pr_infL y) ?_)
                | (refine (HEN.out _).mono ?_
                   clear HEN
                   rintro e W2 ⟨rfl, bb⟩
                   have HJ2 := Lib.hid (HJ1.out.step bb hBW1)
                   have RM := Lib.hid (remove_tk a W2 B g Ua um uc U gP m c L tq HJ2.out.own HJ2.out.kg hBg HY.out.2.1 HTK.out.u6 hm7)
                   clear bb hc71)
                | (refine RM.out.mono ?_
                   clear RM
                   rintro e W3 ⟨rfl, Ua3, um3, uc3, a3, l3, er3, hv, kg3, own3, b3⟩))
              refine bodyPost_ret (results_tmp2 rfl _ _ _) rfl ?_
              rw [HY.out.1, HY.out.2.2] at hv
              have hr := HR2.out
              rw [HH.out] at hr
              simp only [hv] at hr
              subst hr
              have hl3 := freeV_len a U q
              rw [hv] at hl3
              have hul := own3.u.len
              have hu6 := HTK.out.u6
              have hul2 := HTK.out.ul
              have hnames : (delL tq L).map (·.1) = delL tq P := by rw [del_names, HPL.out.2.1]
              have hcd := cnt_del (k := tq) (P := P)
              have hc8 := HPL.out.2.2.2.1
              exact ⟨rfl, HJ2.out.b.trans b3, fun _ => ⟨Ua3, um3, uc3, _, m - 1, c, _, kg3, own3.tk (by simp only at hl3; omega) (by omega) (fun z hz => by
                have := cnt_le (P := delL tq P) (x := z.1) (by rw [← hnames]; exact List.mem_map.2 ⟨z, hz, rfl⟩)
                omega) (by rw [thr_cnt, hnames]; omega), hnames.trans (by rw [← HPL.out.2.2.1, HTO.out]), own3⟩⟩
          · obtain rfl : j = gm := by omega
            have hge : ¬ ((j : Int) < (j : Int)) := by omega
            have hf : ks.find? (endQ P) = none := List.find?_eq_none.2 (fun q hq => by
              have := HJ.out.2.2 q (by rw [HGK.out, List.take_length]; exact hq)
              rw [this]; simp)
            have hr := HR2.out
            rw [hf] at hr
            simp only at hr
            subst hr
            clear hf HR2
            go_wp2_with fail
            refine bodyPost_ret (results_tmp2 rfl _ _ _) rfl ?_
            exact ⟨rfl, HJ.out.1.b, fun h => absurd h (by show ¬ (24 : Int) = 0; decide)⟩
    · try simp only [Act.put, qA, qB, qC, qD, qE, qF]
      obtain ⟨b7, off7, he7, hb7, hc7⟩ := F.own.p.rs p HPL.out.1
      cases he7
      rw [HX.out, Nat.zero_add] at hc7
      have qq := hc7 0 _ rfl
      rw [Nat.add_zero] at qq
      change _ = some (Value.int .i64 x.1.i) at qq
      go_simp
      clear qq hc7 hb7
      refine hK.out _ _ J (fun _ => ?_)
      clear hK K
      try simp only [Act.put, qA, qB, qC, qD, qE, qF]
      refine wpAnyH_ready (rs := [2]) (by kernel_rfl) (by simp) ?_
      refine AllReadyH.cons rfl (fun K hK => ?_) AllReadyH.nil
      try simp only [Act.put, qA, qB, qC, qD, qE, qF]
      refine wp_load_row 27 (.tmp 12) rfl g rfl 27 (tkC a Ua um uc (some ⟨gP, 0, none⟩) m c) (0, 0) _ F.kg.blk Tryz.underlying27 rfl (tk_inf _ _ _ _ _ _ _) ?_
      refine hK.out _ _ J (fun _ => ?_)
      clear hK K
      try simp only [Act.put, qA, qB, qC, qD, qE, qF]
      refine wpAnyH_ready (rs := [11]) (by kernel_rfl) (by simp) ?_
      refine AllReadyH.cons rfl (fun K hK => ?_) AllReadyH.nil
      try simp only [Act.put, qA, qB, qC, qD, qE, qF]
      go_simp
      refine (children_any a Ua um uc (some ⟨gP, 0, none⟩) m c L x.1.i W0 (HTR.out W0 F.own) HML.out (by omega)).mono ?_
      rintro e W1 ⟨G, gm, gc, rfl, zk, bb⟩
      go_wp2_with fail
      rw [HKS.out] at zk
      have F := F.step bb hBW
      have zk := zk.down hsW
      have hBW := Nat.le_trans hBW bb.size
      clear bb
      refine hK.out _ _ J (fun _ => ?_)
      clear hK K
      try simp only [Act.put, qA, qB, qC, qD, qE, qF]
      refine wpAnyH_take (i := 12) (v := .slice G gm gc) rfl (by kernel_rfl) (by kernel_rfl) (by kernel_rfl) (fun _ _ _ h => nomatch h.1) (.inl ⟨by rfl, fun V hV => by go_simp⟩) J ?_
      try simp only [Act.put, qA, qB, qC, qD, qE, qF]
      refine wpAnyH_done (by kernel_rfl) ?_ _
      refine ⟨rfl, ?_⟩
      clear J
      have HZK := Lib.hid zk
      have HM1 := Lib.hid F
      have hgk := zk.len
      have hk6 : gm ≤ 1000000 := by rw [hgk, ← HKS.out, sortZ_len]; have := kidF_len L x.1.i; have := HML.out; omega
      clear zk F
      by_cases hk0 : ks.length = 0
      · have hg0 : gm = 0 := by omega
        have hgb : ((gm : Int) == 0) = true := by rw [hg0]; rfl
        have hr := HR.out
        rw [if_pos hk0] at hr
        subst hr
        clear hk0 hgk HR
        go_wp2_with fail
        refine bodyPost_ret (results_tmp2 rfl _ _ _) rfl ?_
        exact ⟨rfl, HM1.out.b, fun h => absurd h (by show ¬ (27 : Int) = 0; decide)⟩
      · have hgb : ((gm : Int) == 0) = false := by simp; omega
        have hr := HR.out
        rw [if_neg hk0] at hr
        have HR2 := Lib.hid hr
        clear hk0 hr HR
        have HGK := Lib.hid hgk
        clear hgk
        go_wp2_with fail
        go_loopw [28] (fun iv wr' => ∃ (j : Nat) (W : World), W = wr' ∧ j ≤ gm ∧ iv = .int .i64 j ∧ Hid (FkM V W B g a Ua um uc U (some ⟨gP, 0, none⟩) m c L ∧ Zo W V.heap.size G gm gc ks ∧ ∀ q ∈ ks.take j, endQ P q = false)) (fun iv _ => gm - (intOf iv).toNat)
        case atStart => exact ⟨0, _, rfl, Nat.zero_le _, rfl, Lib.hid ⟨HM1.out, HZK.out, fun q h => by simp at h⟩⟩
        case round =>
          clear HM1 HZK hgb
          obtain ⟨j, W, hww, hj, rfl, HJ⟩ := hrel
          subst hww
          by_cases hlt : j < gm
          · have hlt' : (j : Int) < (gm : Int) := by omega
            have hjk : j < ks.length := by have := HGK.out; omega
            obtain ⟨b, off, rfl, hb, hcell⟩ := HJ.out.2.1.ri j hjk
            have hqm : ks.getD j 0 ∈ P.map (·.i) := HMEM.out _ (by rw [show ks.getD j 0 = ks[j] by simp [List.getD, hjk]]; exact List.getElem_mem _)
            have hhit := Lib.hid (fun h1 => find_hit (P := P) hjk HJ.out.2.2 h1)
            have hnext : endQ P (ks.getD j 0) = false → ∀ q ∈ ks.take (j + 1), endQ P q = false := fun h1 q hq => by
              rw [take_snocT hjk] at hq
              rcases List.mem_append.1 hq with hq | hq
              · exact HJ.out.2.2 q hq
              · rw [List.mem_singleton.1 hq]; exact h1
            have HNX := Lib.hid hnext
            have hlg := less_get HPU.out (by rw [HPL.out.2.2.1]; exact hqm)
            have heq : endQ P (ks.getD j 0) = ((L.getD (lessP (idsP L) (ks.getD j 0)) pw0).1.t.length == 0) := by unfold endQ; rw [← HPL.out.2.1, getD_name, ← idsP_names]
            have hct : (idsP L).contains (ks.getD j 0) = true := by rw [HPL.out.2.2.1]; simpa using hqm
            have HPC := Lib.hid (place_tk a Ua um uc (some ⟨gP, 0, none⟩) m c L (ks.getD j 0) W (HTR.out W HJ.out.1.own) HML.out (by omega) HPU.out)
            unfold tkV at HPC
            rw [hct] at HPC
            rw [idsP_getD (by simpa [idsP] using hlg.1)] at hlg
            have hlm : lessP (idsP L) (ks.getD j 0) < L.length := by simpa [idsP] using hlg.1
            generalize ks.getD j 0 = q at hcell hhit HNX heq HPC hlg hlm
            generalize hto : lessP (idsP L) q = tq at heq HPC hlg hlm
            have HTO := Lib.hid hto
            obtain ⟨b7, off7, he7, hb7, hc7⟩ := HJ.out.1.own.p.rs tq hlm
            cases he7
            rw [Nat.zero_add] at hc7
            obtain ⟨y, hy⟩ : ∃ y, L.getD tq pw0 = y := ⟨_, rfl⟩
            rw [hy] at heq hc7 hlg
            have HY := Lib.hid (And.intro hy (And.intro hlm hlg.2))
            have htm : (tq : Int) < (m : Int) := by have := HML.out; omega
            have HENQ := Lib.hid heq
            have HEN := Lib.hid (fun V' => ended_tk y V')
            have kgW := HJ.out.1.kg
            have q2 : W.cell? ⟨g, 2, none⟩ = some (.slice (some ⟨gP, 0, none⟩) m c) := kgW.cell 2
            unfold prV at HEN
            have hBW : B ≤ W.heap.size := Nat.le_trans hBV HJ.out.1.b.size
            have hVW := HJ.out.1.b.size
            clear hqm hnext heq hct hlg hlm hy hto hjk
            generalize (y.1.t.length == 0) = eb at HENQ HEN
            cases eb
            · go_wp2_with (first
                | (refine wpList_load_row rfl 27 (.tmp 34) rfl g rfl 27 (tkC a Ua um uc (some ⟨gP, 0, none⟩) m c) (0, 0) _ kgW.blk Tryz.underlying27 rfl (tk_inf _ _ _ _ _ _ _) ?_)
                | (refine HPC.out.mono ?_
                   clear HPC
                   rintro e W1 ⟨rfl, bb⟩
                   have HJ1 := Lib.hid (And.intro (HJ.out.1.step bb hBW) (HJ.out.2.1.below bb (Nat.le_refl _)))
                   have hc71 : W1.rangeAt gP (tq * 3) (prC y).toList := range_belowT hc7 bb hb7
                   have q3 : W1.cell? ⟨g, 2, none⟩ = some (.slice (some ⟨gP, 0, none⟩) m c) := (kgW.below bb kgW.lt).cell 2
                   have hBW1 := Nat.le_trans hBW bb.size
                   clear bb hcell)
                | (refine wpListG_load_mid (by rfl) 49 (.tmp 45) rfl gP (tq * 3) rfl (prC y).toList _ hc71 Tryz.underlying49 rfl (pr_infL y) ?_)
                | (refine (HEN.out _).mono ?_
                   clear HEN
                   rintro e W2 ⟨rfl, bb⟩
                   have HJ2 := Lib.hid (And.intro (HJ1.out.1.step bb hBW1) (HJ1.out.2.below bb (Nat.le_refl _)))
                   clear bb hc71))
              go_roundw
              case rel => exact ⟨j + 1, _, rfl, by omega, by go_num, Lib.hid ⟨HJ2.out.1, HJ2.out.2, HNX.out HENQ.out⟩⟩
              case measure => simp [intOf]; omega
            · have HH := Lib.hid (hhit.out HENQ.out)
              go_wp2_with (first
                | (refine wpList_load_row rfl 27 (.tmp 34) rfl g rfl 27 (tkC a Ua um uc (some ⟨gP, 0, none⟩) m c) (0, 0) _ kgW.blk Tryz.underlying27 rfl (tk_inf _ _ _ _ _ _ _) ?_)
                | (refine HPC.out.mono ?_
                   clear HPC
                   rintro e W1 ⟨rfl, bb⟩
                   have HJ1 := Lib.hid (HJ.out.1.step bb hBW)
                   have hc71 : W1.rangeAt gP (tq * 3) (prC y).toList := range_belowT hc7 bb hb7
                   have q3 : W1.cell? ⟨g, 2, none⟩ = some (.slice (some ⟨gP, 0, none⟩) m c) := (kgW.below bb kgW.lt).cell 2
                   have hBW1 := Nat.le_trans hBW bb.size
                   clear bb hcell)
                | (refine wpListG_load_mid (by rfl) 49 (.tmp 45) rfl gP (tq * 3) rfl (prC y).toList _ hc71 Tryz.underlying49 rfl (pr_infL y) ?_)
                | (refine (HEN.out _).mono ?_
                   clear HEN
                   rintro e W2 ⟨rfl, bb⟩
                   have HJ2 := Lib.hid (HJ1.out.step bb hBW1)
                   have RM := Lib.hid (remove_tk a W2 B g Ua um uc U gP m c L tq HJ2.out.own HJ2.out.kg hBg HY.out.2.1 HTK.out.u6 hm7)
                   clear bb hc71)
                | (refine RM.out.mono ?_
                   clear RM
                   rintro e W3 ⟨rfl, Ua3, um3, uc3, a3, l3, er3, hv, kg3, own3, b3⟩))
              refine bodyPost_ret (results_tmp2 rfl _ _ _) rfl ?_
              rw [HY.out.1, HY.out.2.2] at hv
              have hr := HR2.out
              rw [HH.out] at hr
              simp only [hv] at hr
              subst hr
              have hl3 := freeV_len a U q
              rw [hv] at hl3
              have hul := own3.u.len
              have hu6 := HTK.out.u6
              have hul2 := HTK.out.ul
              have hnames : (delL tq L).map (·.1) = delL tq P := by rw [del_names, HPL.out.2.1]
              have hcd := cnt_del (k := tq) (P := P)
              have hc8 := HPL.out.2.2.2.1
              exact ⟨rfl, HJ2.out.b.trans b3, fun _ => ⟨Ua3, um3, uc3, _, m - 1, c, _, kg3, own3.tk (by simp only at hl3; omega) (by omega) (fun z hz => by
                have := cnt_le (P := delL tq P) (x := z.1) (by rw [← hnames]; exact List.mem_map.2 ⟨z, hz, rfl⟩)
                omega) (by rw [thr_cnt, hnames]; omega), hnames.trans (by rw [← HPL.out.2.2.1, HTO.out]), own3⟩⟩
          · obtain rfl : j = gm := by omega
            have hge : ¬ ((j : Int) < (j : Int)) := by omega
            have hf : ks.find? (endQ P) = none := List.find?_eq_none.2 (fun q hq => by
              have := HJ.out.2.2 q (by rw [HGK.out, List.take_length]; exact hq)
              rw [this]; simp)
            have hr := HR2.out
            rw [hf] at hr
            simp only at hr
            subst hr
            clear hf HR2
            go_wp2_with fail
            refine bodyPost_ret (results_tmp2 rfl _ _ _) rfl ?_
            exact ⟨rfl, HJ.out.1.b, fun h => absurd h (by show ¬ (24 : Int) = 0; decide)⟩
end Go.Proofs.YtlelhhgggnjndaaGreat
namespace Go.Proofs.YtlelhhgggnjndaaGreat
open Go.RowKit Go.Shelf
set_option linter.unusedVariables false
set_option linter.unusedSimpArgs false
def wkA : TkA := ⟨2, [1, 2], [⟨1, 0, [1]⟩, ⟨2, 1, [2]⟩], 2, 0⟩
def wkB : TkA := ⟨3, [1, 2, 3], [⟨1, 0, [1]⟩, ⟨2, 1, [2, 3]⟩], 3, 0⟩
def wkC : TkA := ⟨3, [1, 2, 3], [⟨1, 0, [1]⟩, ⟨2, 1, [3]⟩], 0, 0⟩
theorem tkE_of {a : Int} {U : List Int} {M : List Pw} (hs : (idsP M ++ oddF M (thrF 0 M)).Pairwise (· ≤ ·)) : tkE a U M = if fewB M && (pidE a U == 0 && (ordB M && (U == (idsP M ++ oddF M (thrF 0 M)) && !(M.any (rootB M))))) then 0 else 220 := by
  unfold tkE idsF
  rw [show sortZ (idsP M ++ oddF M (thrF 0 M)) = idsP M ++ oddF M (thrF 0 M) from List.mergeSort_of_pairwise (hs.imp fun h => by simpa using h)]
theorem wk1 {L : List Pw} (h : L.map (·.1) = beginA.P) : chgT (tkE 1 [1] L) (homeF L 1) (forkR 1 [1] (L.map (·.1)) (homeF L 1).1) = wkA := by
  rw [tkE_nm (h.trans (ofN_nm _).symm), home_nm (h.trans (ofN_nm _).symm), h, tkE_of (by decide)]
  kernel_rfl
theorem wk2 {L : List Pw} (h : L.map (·.1) = wkA.P) : chgT (tkE 2 [1, 2] L) (homeF L 2) (cloneR 2 [1, 2] (L.map (·.1)) (homeF L 2).1) = wkB := by
  rw [tkE_nm (h.trans (ofN_nm _).symm), home_nm (h.trans (ofN_nm _).symm), h, tkE_of (by decide)]
  kernel_rfl
theorem wk3 {L : List Pw} (h : L.map (·.1) = wkB.P) : chgT (tkE 3 [1, 2, 3] L) (homeF L 2) (endN 3 [1, 2, 3] (L.map (·.1)) (homeF L 2).1 2) = wkC := by
  rw [tkE_nm (h.trans (ofN_nm _).symm), home_nm (h.trans (ofN_nm _).symm), h, tkE_of (by decide)]
  kernel_rfl
theorem wk4 {L : List Pw} (h : L.map (·.1) = wkC.P) : (chgT (tkE 3 [1, 2, 3] L) (homeF L 1) (reapR 3 [1, 2, 3] (L.map (·.1)) (homeF L 1).1)).e = 24 := by
  rw [tkE_nm (h.trans (ofN_nm _).symm), home_nm (h.trans (ofN_nm _).symm), h, tkE_of (by decide)]
  kernel_rfl
theorem wk3s {L : List Pw} (h : L.map (·.1) = wkB.P) : (((L.map (·.1)).getD (homeF L 2).1 pn0).t.filter fun t => !(t == (2 : Int))) ≠ [] := by
  rw [home_nm (h.trans (ofN_nm _).symm), h]
  have : ((wkB.P.getD (homeF (ofN wkB.P) 2).1 pn0).t.filter fun t => !(t == (2 : Int))) = [3] := by kernel_rfl
  rw [this]
  simp
end Go.Proofs.YtlelhhgggnjndaaGreat
namespace Go.Proofs.YtlelhhgggnjndaaGreat
open Go.RowKit Go.Shelf
set_option linter.unusedVariables false
set_option linter.unusedSimpArgs false
theorem blk_rangeT {w : World} {g : Nat} {cs : Array Value} {t : TypeId} (k : Blk w g cs t) : w.rangeAt g 0 cs.toList := fun j v hv => by
  rw [Nat.zero_add, k.cell j, ← Array.getElem?_toList]
  exact hv
theorem thr_nm (L : List Pw) (q : Int) : thrOf L q = (match (L.map (·.1)).find? (fun x => x.i == q) with | some x => x.t | none => []) := by
  unfold thrOf
  rw [List.find?_map]
  show _ = (match (L.find? (fun x => x.1.i == q)).map (·.1) with | some x => x.t | none => [])
  cases L.find? (fun x => x.1.i == q) <;> rfl
set_option maxRecDepth 100000 in
set_option maxHeartbeats 8000000 in
theorem wakes_any (w : World) : Calls Tryz.prog 5 #[] w fun e w' => e = .returned (.bool true) ∧ Below w.heap.size w w' := by
  have H0 := Lib.hid (begin_tk w)
  go_enter Tryz.func5, Tryz.ntmps5
  go_wp2_with (first
    | (refine H0.out.mono ?_
       clear H0
       rintro e w1 ⟨v, rfl, ⟨Ua, um, uc, A, m, c, L, rfl, tk, hn, fr⟩, bb⟩
       have H1 := Lib.hid (fork_tk beginA.a Ua um uc beginA.U A m c L 1 w1 tk)
       rw [show chgT (tkE beginA.a beginA.U L) (homeF L 1) (forkR beginA.a beginA.U (L.map (·.1)) (homeF L 1).1) = wkA from wk1 hn, show wkA.n = 2 from rfl, show wkA.e = 0 from rfl] at H1
       have B1 := bb
       clear tk hn fr bb
       unfold tkV at *)
    | (refine H1.out.mono ?_
       clear H1
       rintro e w2 ⟨v, rfl, ⟨Ua, um, uc, A, m, c, L, rfl, tk, hn, fr⟩, bb⟩
       have B2 := B1.trans (bb.mono B1.size)
       clear B1 bb fr
       unfold tkV)
    | (refine wpList_store_blk rfl 27 (.tmp 1) (.tmp 14) rfl w2.heap.size (tkC 0 none 0 0 none 0 0) (tkC wkA.a Ua um uc A m c) 27 rfl rfl (Blk.new _ _ _) rfl (tk_inf _ _ _ _ _ _ _) (tk_one _ _ _ _ _ _ _) ?_
       intro w3 h3 n3
       have b3 : Below w2.heap.size w2 w3 := ((Below.refl _ w2).alloc (Nat.le_refl _) _).trans (n3.below _ (Nat.le_refl _) (by simp))
       have B3 := B2.trans (b3.mono B2.size)
       have H3 := Lib.hid (clone_tk wkA.a Ua um uc wkA.U A m c L 2 w3 (tk.on b3))
       rw [show chgT (tkE wkA.a wkA.U L) (homeF L 2) (cloneR wkA.a wkA.U (L.map (·.1)) (homeF L 2).1) = wkB from wk2 hn, show wkB.n = 3 from rfl, show wkB.e = 0 from rfl] at H3
       unfold tkV at H3
       clear B2 b3 n3 tk hn)
    | (refine wpList_load_row rfl 27 (.tmp 1) rfl w2.heap.size rfl 27 (tkC wkA.a Ua um uc A m c) (0, 0) _ h3.blk Tryz.underlying27 rfl (tk_inf _ _ _ _ _ _ _) ?_)
    | (refine H3.out.mono ?_
       clear H3 h3
       rintro e w4 ⟨v, rfl, ⟨Ua, um, uc, A, m, c, L, rfl, tk, hn, fr⟩, bb⟩
       have B4 := B3.trans (bb.mono B3.size)
       clear B3 bb fr
       unfold tkV)
    | (refine wpList_store_blk rfl 27 (.tmp 4) (.tmp 20) rfl w4.heap.size (tkC 0 none 0 0 none 0 0) (tkC wkB.a Ua um uc A m c) 27 rfl rfl (Blk.new _ _ _) rfl (tk_inf _ _ _ _ _ _ _) (tk_one _ _ _ _ _ _ _) ?_
       intro w5 h5 n5
       have b5 : Below w4.heap.size w4 w5 := ((Below.refl _ w4).alloc (Nat.le_refl _) _).trans (n5.below _ (Nat.le_refl _) (by simp))
       have B5 := B4.trans (b5.mono B4.size)
       have H5 := Lib.hid (end_tk wkB.a Ua um uc wkB.U A m c L 2 (endN wkB.a wkB.U (L.map (·.1)) (homeF L 2).1 2) w5 (tk.on b5) (fun gt g hp _ => end1_tk gt 2 wkB.a wkB.U (L.map (·.1)) (homeF L 2).1 (by simpa using hp) (Nat.le_trans g.n8 (by omega)) (wk3s hn)))
       rw [show chgT (tkE wkB.a wkB.U L) (homeF L 2) (endN wkB.a wkB.U (L.map (·.1)) (homeF L 2).1 2) = wkC from wk3 hn, show wkC.e = 0 from rfl] at H5
       unfold tkV at H5
       have hs5 : w4.heap.size < w5.heap.size := h5.lt
       have hw4 := B4.size
       clear B4 b5 n5 tk hn)
    | (refine wpList_load_row rfl 27 (.tmp 4) rfl w4.heap.size rfl 27 (tkC wkB.a Ua um uc A m c) (0, 0) _ h5.blk Tryz.underlying27 rfl (tk_inf _ _ _ _ _ _ _) ?_)
    | (refine H5.out.mono ?_
       clear H5
       rintro e w6 ⟨v, rfl, ⟨Ua6, um6, uc6, A6, m6, c6, L6, rfl, tk6, hn6, fr6⟩, bb⟩
       have B6 := B5.trans (bb.mono B5.size)
       have k6 := h5.below bb h5.lt
       clear B5 bb h5
       unfold tkV)
    | (refine wpList_store_blk rfl 27 (.tmp 4) (.tmp 26) rfl w4.heap.size (tkC wkB.a Ua um uc A m c) (tkC wkC.a Ua6 um6 uc6 A6 m6 c6) 27 rfl rfl k6 rfl (tk_inf _ _ _ _ _ _ _) (tk_one _ _ _ _ _ _ _) ?_
       intro w7 h7 n7
       have B7 := B6.trans (n7.below _ hw4 B6.size)
       have tk7 := tk6.off fr6.fr n7 hs5
       have H7 := Lib.hid (reap_tk wkC.a Ua6 um6 uc6 wkC.U A6 m6 c6 L6 1 (reapR wkC.a wkC.U (L6.map (·.1)) (homeF L6 1).1) w7 tk7 (fun g hp _ => reap1_tk wkC.a wkC.U (L6.map (·.1)) (homeF L6 1).1 (by simpa using hp) (by rw [List.map_map]; exact g.pup) g.n8 (by simpa using g.p6)))
       have hr := wk4 hn6
       rw [show (chgT (tkE wkC.a wkC.U L6) (homeF L6 1) (reapR wkC.a wkC.U (L6.map (·.1)) (homeF L6 1).1)).e = 24 from hr] at H7
       have HT7 := Lib.hid (And.intro tk7 hn6)
       generalize chgT (tkE wkC.a wkC.U L6) (homeF L6 1) (reapR wkC.a wkC.U (L6.map (·.1)) (homeF L6 1).1) = rr at H7
       obtain ⟨ra, rU, rP, rn, re⟩ := rr
       simp only at H7
       unfold tkV at H7
       clear B6 n7 k6 tk6 fr6 hr tk7 hn6)
    | (refine wpList_load_row rfl 27 (.tmp 4) rfl w4.heap.size rfl 27 (tkC wkC.a Ua6 um6 uc6 A6 m6 c6) (0, 0) _ h7.blk Tryz.underlying27 rfl (tk_inf _ _ _ _ _ _ _) ?_)
    | (refine H7.out.mono ?_
       clear H7
       rintro e w8 ⟨v, rfl, ⟨Ua8, um8, uc8, A8, m8, c8, L8, rfl, tk8, hn8, fr8⟩, bb⟩
       have B8 := B7.trans (bb.mono B7.size)
       have k8 := h7.below bb h7.lt
       have HT8 := Lib.hid (And.intro (HT7.out.1.on bb) HT7.out.2)
       clear B7 bb h7 fr8 tk8 hn8
       unfold tkV)
    | (refine wpList_store_blk rfl 27 (.tmp 8) (.tmp 31) rfl w8.heap.size (tkC 0 none 0 0 none 0 0) (tkC ra Ua8 um8 uc8 A8 m8 c8) 27 rfl rfl (Blk.new _ _ _) rfl (tk_inf _ _ _ _ _ _ _) (tk_one _ _ _ _ _ _ _) ?_
       intro w9 h9 n9
       have b9 : Below w8.heap.size w8 w9 := ((Below.refl _ w8).alloc (Nat.le_refl _) _).trans (n9.below _ (Nat.le_refl _) (by simp))
       have B9 := B8.trans (b9.mono B8.size)
       have kk := blk_rangeT (k8.below b9 k8.lt)
       have t9 := HT8.out.1.on b9
       have H9 := Lib.hid (threadsOf_any wkC.a Ua6 um6 uc6 A6 m6 c6 L6 2 w9 t9.p t9.pl (by have := t9.p6; omega))
       rw [thr_nm, HT8.out.2] at H9
       unfold tkV at H9
       clear B8 b9 n9 h9 t9 k8)
    | (refine wpListG_load_mid (by rfl) 27 (.tmp 4) rfl w4.heap.size 0 rfl (tkC wkC.a Ua6 um6 uc6 A6 m6 c6).toList _ kk Tryz.underlying27 rfl (by rw [Array.length_toList]; exact tk_inf _ _ _ _ _ _ _) ?_)
    | (refine H9.out.mono ?_
       clear H9
       rintro e w10 ⟨GA, gm, gc, rfl, zo, b10⟩
       have hgm : gm = 1 := zo.len
       subst hgm
       have B10 := B9.trans (b10.mono B9.size)
       clear zo b10 B9))
  go_ret
  exact ⟨rfl, B10⟩
end Go.Proofs.YtlelhhgggnjndaaGreat
namespace Go.Proofs.YtlelhhgggnjndaaGreat
open Go.RowKit Go.Shelf
set_option linter.unusedVariables false
set_option linter.unusedSimpArgs false
def ofR : List Pw → Int → Int
  | [], _ => 0
  | x :: l, pid => if x.1.t.contains pid then x.1.i else ofR l pid
theorem ofR_drop {L : List Pw} {k : Nat} (h : k < L.length) (pid : Int) : ofR (L.drop k) pid = if (L.getD k pw0).1.t.contains pid then (L.getD k pw0).1.i else ofR (L.drop (k + 1)) pid := by
  rw [List.drop_eq_getElem_cons h, ofR]
  simp [List.getD, h]
set_option maxRecDepth 100000 in
set_option maxHeartbeats 4000000 in
theorem of_rf (a : Int) (Ua : Option Addr) (um uc : Nat) (A : Option Addr) (m c : Nat) (L : List Pw) (pid : Int) (w : World) (hP : Ps w w.heap.size A L) (hm : m = L.length) (h6 : m ≤ 1000000) :
    Calls Tryz.prog 20 #[tkV a Ua um uc A m c, .int .i64 pid] w fun e w' => e = .returned (.int .i64 (ofR L pid)) ∧ Below w.heap.size w w' := by
  have k1 := Blk.new w (tkC a Ua um uc A m c) 27
  have B0 := (Below.refl w.heap.size w).alloc (Nat.le_refl _) (.cells (tkC a Ua um uc A m c) 27)
  have q2 : (w.alloc (.cells (tkC a Ua um uc A m c) 27)).cell? ⟨w.heap.size, 2, none⟩ = some (.slice A m c) := k1.cell 2
  have HM := Lib.hid hm
  clear hm
  unfold tkV
  go_enter Tryz.func20, Tryz.ntmps20
  go_wp2_with fail
  clear q2 k1
  go_loopw [10] (fun i wr' => ∃ (k : Nat) (wr : World), wr = wr' ∧ k ≤ m ∧ i = .int .i64 k ∧ ofR L pid = ofR (L.drop k) pid ∧ Below w.heap.size w wr) (fun i _ => m - (intOf i).toNat)
  case atStart => exact ⟨0, _, rfl, Nat.zero_le _, rfl, by simp, B0⟩
  case round =>
    clear B0
    obtain ⟨k, wr, hwr, hk, rfl, hinv, hB⟩ := hrel
    subst hwr
    by_cases hlt : k < m
    · have hlt' : (k : Int) < (m : Int) := by omega
      have hkl : k < L.length := by have := HM.out; omega
      obtain ⟨b, off, rfl, hb, hc⟩ := (hP.below hB (Nat.le_refl _)).at_ k hkl
      rw [ofR_drop hkl] at hinv
      have hT := (hP.below hB (Nat.le_refl _)).at' hkl
      generalize L.getD k pw0 = x at hc hinv hT
      have hs3 : (prC x).size = 3 := pr_size x
      obtain ⟨cb, hq⟩ : ∃ cb, x.1.t.contains pid = cb := ⟨_, rfl⟩
      have HR := Lib.hid (fun (V : World) (h : Below wr.heap.size wr V) => has_rf x.2.1 x.1.t.length x.2.2 x.1.t pid V ((hT.ri.below (h.mono hB.size) (Nat.le_refl _)).more (Nat.le_trans hB.size h.size)) rfl hT.l)
      rw [hq] at HR
      cases cb
      · rw [hq, if_neg (by simp)] at hinv
        clear hq
        have HI := Lib.hid hinv
        clear hinv
        go_wp2_with (first
          | (refine wpList_load_mid rfl 49 (.tmp 12) rfl b (off + k * 3) rfl (prC x).toList _ hc Tryz.underlying49 rfl (pr_infL x) ?_)
          | (refine wpList_store_blk rfl 49 (.tmp 6) (.tmp 13) rfl wr.heap.size (prC pw0) (prC x) 49 rfl rfl (Blk.new _ _ _) rfl (pr_inf x) (pr_one x) ?_
             intro W1 k4 n4
             have bb : Below wr.heap.size wr W1 := ((Below.refl _ wr).alloc (Nat.le_refl _) _).trans (n4.below _ (Nat.le_refl _) (by simp))
             have q0 : W1.cell? ⟨wr.heap.size, 0, none⟩ = some (.int .i64 x.1.i) := k4.cell 0
             have q2 : W1.cell? ⟨wr.heap.size, 2, none⟩ = some (.slice x.2.1 x.1.t.length x.2.2) := k4.cell 2
             have B1 := hB.trans (bb.mono hB.size)
             have hr := HR.out W1 bb
             clear n4 HR)
          | (refine hr.mono ?_
             clear hr
             rintro e W2 ⟨rfl, b2⟩
             have k5 := k4.below b2 k4.lt
             have q0 : W2.cell? ⟨wr.heap.size, 0, none⟩ = some (.int .i64 x.1.i) := k5.cell 0
             have B2 := B1.trans (b2.mono B1.size)))
        go_roundw
        case rel => exact ⟨k + 1, _, rfl, by omega, by go_num, HI.out, B2⟩
        case measure => simp [intOf]; omega
      · rw [hq, if_pos rfl] at hinv
        clear hq
        have HI := Lib.hid hinv
        clear hinv
        go_wp2_with (first
          | (refine wpList_load_mid rfl 49 (.tmp 12) rfl b (off + k * 3) rfl (prC x).toList _ hc Tryz.underlying49 rfl (pr_infL x) ?_)
          | (refine wpList_store_blk rfl 49 (.tmp 6) (.tmp 13) rfl wr.heap.size (prC pw0) (prC x) 49 rfl rfl (Blk.new _ _ _) rfl (pr_inf x) (pr_one x) ?_
             intro W1 k4 n4
             have bb : Below wr.heap.size wr W1 := ((Below.refl _ wr).alloc (Nat.le_refl _) _).trans (n4.below _ (Nat.le_refl _) (by simp))
             have q0 : W1.cell? ⟨wr.heap.size, 0, none⟩ = some (.int .i64 x.1.i) := k4.cell 0
             have q2 : W1.cell? ⟨wr.heap.size, 2, none⟩ = some (.slice x.2.1 x.1.t.length x.2.2) := k4.cell 2
             have B1 := hB.trans (bb.mono hB.size)
             have hr := HR.out W1 bb
             clear n4 HR)
          | (refine hr.mono ?_
             clear hr
             rintro e W2 ⟨rfl, b2⟩
             have k5 := k4.below b2 k4.lt
             have q0 : W2.cell? ⟨wr.heap.size, 0, none⟩ = some (.int .i64 x.1.i) := k5.cell 0
             have B2 := B1.trans (b2.mono B1.size)))
        go_ret
        exact ⟨by rw [HI.out]; rfl, B2⟩
    · obtain rfl : k = m := by omega
      rw [HM.out, List.drop_length] at hinv
      have HI := Lib.hid hinv
      clear hinv
      go_wp2_with fail
      go_ret
      exact ⟨by rw [HI.out]; rfl, hB⟩
end Go.Proofs.YtlelhhgggnjndaaGreat
namespace Go.Proofs.YtlelhhgggnjndaaGreat
open Go.RowKit Go.Shelf
set_option linter.unusedVariables false
set_option linter.unusedSimpArgs false
theorem of_find (tid : Int) : ∀ (L : List Pw) (n : Nat), (∃ p j x, (thrF n L).find? (fun x => x.2 == tid) = some p ∧ L[j]? = some x ∧ p.1 = n + j ∧ ofR L tid = x.1.i) ∨ ((thrF n L).find? (fun x => x.2 == tid) = none ∧ ofR L tid = 0)
  | [], n => .inr ⟨rfl, rfl⟩
  | x :: L, n => by
    rw [thrF, List.find?_append, ofR]
    by_cases h : x.1.t.contains tid = true
    · rw [if_pos h]
      have h1 : ∃ t, x.1.t.find? (fun t => t == tid) = some t := by
        have : (x.1.t.find? (fun t => t == tid)).isSome = true := by
          rw [List.find?_isSome]
          exact ⟨tid, by simpa using h, by simp⟩
        exact Option.isSome_iff_exists.1 this
      obtain ⟨t, ht⟩ := h1
      refine .inl ⟨(n, t), 0, x, ?_, rfl, rfl, rfl⟩
      rw [List.find?_map]
      have : (x.1.t.find? ((fun (x : Nat × Int) => x.2 == tid) ∘ fun t => (n, t))) = some t := ht
      rw [this]
      rfl
    · rw [if_neg h]
      have h1 : (x.1.t.map (fun t => (n, t))).find? (fun x => x.2 == tid) = none := by
        rw [List.find?_eq_none]
        intro p hp
        obtain ⟨t, ht, rfl⟩ := List.mem_map.1 hp
        intro e
        apply h
        simp only [beq_iff_eq] at e
        subst e
        simpa using ht
      rw [h1]
      rcases of_find tid L (n + 1) with ⟨p, j, y, h2, h3, h4, h5⟩ | ⟨h2, h3⟩
      · exact .inl ⟨p, j + 1, y, by rw [h2]; rfl, by simpa using h3, by omega, h5⟩
      · exact .inr ⟨by rw [h2]; rfl, h3⟩
theorem tkE_or (a : Int) (U : List Int) (L : List Pw) : tkE a U L = 0 ∨ tkE a U L = 220 := by unfold tkE; split <;> simp
theorem good_pos {a : Int} {U : List Int} {L : List Pw} (g : TkGood a U L) : ∀ x ∈ L, ¬ x.1.i = 0 := fun x hx => by
  have h1 : x.1.i ∈ U := by
    rw [g.used]
    unfold idsF
    rw [sortZ_mem, List.mem_append]
    exact .inl (List.mem_map.2 ⟨x, hx, rfl⟩)
  have := (g.ids.m _ h1).1
  omega
end Go.Proofs.YtlelhhgggnjndaaGreat
namespace Go.Proofs.YtlelhhgggnjndaaGreat
open Go.RowKit Go.Shelf
set_option linter.unusedVariables false
set_option linter.unusedSimpArgs false
def rePn (x : Pn) (q : Int) : Pn := ⟨x.i, q, x.t⟩
def reP (x : Pw) (q : Int) : Pw := (rePn x.1 q, x.2)
def bqStep (n : Nat) (pid : Int) (k : Nat) (P : List Pn) : List Pn := if ((P.getD k pn0).p == pid) = true then P.set k (rePn (P.getD k pn0) (heirF (ofN P) n (P.getD k pn0).i)) else P
def bqF (n : Nat) (pid : Int) : Nat → Nat → List Pn → List Pn
  | 0, _, P => P
  | d + 1, k, P => bqF n pid d (k + 1) (bqStep n pid k P)
def bqG : Nat → Int × List Int × List Pn → Int × List Int × List Pn
  | 0, s => s
  | k + 1, s => bqG k (if ((s.2.2.getD k pn0).t.length == 0 && (s.2.2.getD k pn0).p == 0) = true then ((freeV s.1 s.2.1 (s.2.2.getD k pn0).i).1, (freeV s.1 s.2.1 (s.2.2.getD k pn0).i).2.1, delL k s.2.2) else s)
theorem meets_nm {L M : List Pw} (h : L.map (·.1) = M.map (·.1)) (c : Int) : ∀ (n : Nat) (q : Int), meets L c n q = meets M c n q
  | 0, q => rfl
  | n + 1, q => by unfold meets; rw [par_nm h, meets_nm h c n]
theorem heir_nm {L M : List Pw} (h : L.map (·.1) = M.map (·.1)) (n : Nat) (c : Int) : heirF L n c = heirF M n c := by unfold heirF; rw [run_nm h, meets_nm h]
theorem ids_set {L : List Pw} {k : Nat} {q : Int} (hk : k < L.length) : idsP (L.set k (reP (L.getD k pw0) q)) = idsP L := by
  unfold idsP
  rw [List.map_set]
  have : (reP (L.getD k pw0) q).1.i = (L.map (·.1.i))[k]'(by simpa using hk) := by simp [reP, rePn, List.getD, hk]
  rw [this, List.set_getElem_self]
theorem par_set {L : List Pw} {k : Nat} {q : Int} (hk : k < L.length) (hu : (idsP L).Pairwise (· < ·)) {z : Int} (hz : (idsP L).contains z = true) : parP (L.set k (reP (L.getD k pw0) q)) z = if z = (L.getD k pw0).1.i then q else parP L z := by
  unfold parP
  rw [ids_set hk, getD_setP hk]
  obtain ⟨h1, h2⟩ := less_get hu (by simpa using hz)
  by_cases e : lessP (idsP L) z = k
  · rw [if_pos e]
    rw [e, idsP_getD hk] at h2
    rw [if_pos h2.symm]
    rfl
  · rw [if_neg e, if_neg]
    intro e2
    have hk' : k < (idsP L).length := by simpa [idsP] using hk
    have h4 : (idsP L).getD (lessP (idsP L) z) 0 = (idsP L).getD k 0 := by rw [h2, idsP_getD hk]; exact e2
    rcases Nat.lt_or_gt_of_ne e with h5 | h5
    · have := up_getD hu h5 hk'; omega
    · have := up_getD hu h5 h1; omega
theorem run_set {L : List Pw} {k : Nat} {q z : Int} (hk : k < L.length) : runB (L.set k (reP (L.getD k pw0) q)) z = runB L z := by
  unfold runB
  rw [ids_set hk, getD_setP hk]
  congr 1
  split
  · rename_i e
    rw [e]
    rfl
  · rfl
theorem clm_cut {L : List Pw} {k : Nat} (hk : k < L.length) (hu : (idsP L).Pairwise (· < ·)) : ∀ (n : Nat) (z : Int), clm L n z = true → clm (L.set k (reP (L.getD k pw0) 0)) n z = true
  | 0, z, h => h
  | n + 1, z, h => by
    unfold clm at h ⊢
    rw [ids_set hk]
    by_cases h0 : z = 0
    · simp [h0]
    · rw [show (z == 0) = false by simpa using h0, Bool.false_or, Bool.and_eq_true] at h ⊢
      refine ⟨h.1, ?_⟩
      rw [par_set hk hu h.1]
      split
      · cases n <;> simp [clm]
      · exact clm_cut hk hu n _ h.2
theorem clm_off {L : List Pw} {k : Nat} {q : Int} (hk : k < L.length) (hu : (idsP L).Pairwise (· < ·)) : ∀ (n : Nat) (z : Int), clm L n z = true → meets L (L.getD k pw0).1.i n z = false → clm (L.set k (reP (L.getD k pw0) q)) n z = true
  | 0, z, h, _ => h
  | n + 1, z, h, hm => by
    unfold clm at h ⊢
    rw [ids_set hk]
    by_cases h0 : z = 0
    · simp [h0]
    · rw [show (z == 0) = false by simpa using h0, Bool.false_or, Bool.and_eq_true] at h ⊢
      refine ⟨h.1, ?_⟩
      unfold meets at hm
      rw [if_neg h0] at hm
      have hne : ¬ z = (L.getD k pw0).1.i := fun e => by rw [if_pos e] at hm; cases hm
      rw [if_neg hne] at hm
      rw [par_set hk hu h.1, if_neg hne]
      exact clm_off hk hu n _ h.2 hm
theorem clm_step {L : List Pw} {k n : Nat} (hk : k < L.length) (hu : (idsP L).Pairwise (· < ·)) (h : runB L 1 = true → clm L n 1 = true) : runB (L.set k (reP (L.getD k pw0) (heirF L n (L.getD k pw0).1.i))) 1 = true → clm (L.set k (reP (L.getD k pw0) (heirF L n (L.getD k pw0).1.i))) n 1 = true := by
  rw [run_set hk]
  intro hr
  unfold heirF
  rw [if_pos hr]
  split
  · exact clm_cut hk hu n 1 (h hr)
  · rename_i h1
    exact clm_off hk hu n 1 (h hr) (by simpa using h1)
theorem bqStep_nm {L : List Pw} {k n : Nat} {pid : Int} (hk : k < L.length) : bqStep n pid k (L.map (·.1)) = if ((L.getD k pw0).1.p == pid) = true then (L.set k (reP (L.getD k pw0) (heirF L n (L.getD k pw0).1.i))).map (·.1) else L.map (·.1) := by
  unfold bqStep
  rw [show (L.map (·.1)).getD k pn0 = (L.getD k pw0).1 by simp [List.getD, hk], heir_nm (ofN_nm (L.map (·.1))) n]
  split
  · rw [List.map_set]; rfl
  · rfl
theorem OwnT.setP {V : World} {B um uc gP m c k : Nat} {Ua : Option Addr} {U : List Int} {L : List Pw} (own : OwnT V B Ua um uc U (some ⟨gP, 0, none⟩) m c L) (hk : k < L.length) (q : Int) : OwnT (V.setCell ⟨gP, k * 3 + 1, none⟩ (.int .i64 q)) B Ua um uc U (some ⟨gP, 0, none⟩) m c (L.set k (reP (L.getD k pw0) q)) := by
  have n5 : But gP V (V.setCell ⟨gP, k * 3 + 1, none⟩ (.int .i64 q)) := (But.refl gP V).setCell (p := ⟨gP, k * 3 + 1, none⟩) (.inl rfl) _
  obtain ⟨curP, kP⟩ := roP_blk own.p rfl
  have kind5 : ∀ {A m c l B'}, Zo V B' A m c l → Zo (V.setCell ⟨gP, k * 3 + 1, none⟩ (.int .i64 q)) B' A m c l := fun h => own_kind h (grown_but n5) (fun g' e => by cases e; exact ⟨_, _, kP, by decide⟩)
  have hx : L.getD k pw0 ∈ L := by rw [show L.getD k pw0 = L[k] by simp [List.getD, hk]]; exact List.getElem_mem hk
  have hmem : ∀ y ∈ L.set k (reP (L.getD k pw0) q), ∃ z ∈ L, y.2 = z.2 ∧ y.1.t = z.1.t := fun y hy => by
    rcases List.mem_or_eq_of_mem_set hy with h | rfl
    · exact ⟨y, h, rfl, rfl⟩
    · exact ⟨_, hx, rfl, rfl⟩
  have hown : ∀ j, ownT ((L.set k (reP (L.getD k pw0) q)).getD j pw0) = ownT (L.getD j pw0) := fun j => by
    rw [getD_setP hk]
    split
    · rename_i e; rw [e]; rfl
    · rfl
  refine ⟨kind5 own.u, own.p.cellSet hk (by omega) rfl, fun y hy => ?_, fun i j hi hj hij g' h1 h2 => ?_, fun y hy g' e => ?_⟩
  · obtain ⟨z, hz, e1, e2⟩ := hmem y hy
    rw [e1, e2]
    exact kind5 (own.q z hz)
  · rw [hown] at h1 h2
    rw [List.length_set] at hi hj
    exact own.qd i j hi hj hij g' h1 h2
  · obtain ⟨z, hz, e1, e2⟩ := hmem y hy
    refine own.ud z hz g' ?_
    unfold ownT at e ⊢
    rw [← e1, ← e2]
    exact e
end Go.Proofs.YtlelhhgggnjndaaGreat
