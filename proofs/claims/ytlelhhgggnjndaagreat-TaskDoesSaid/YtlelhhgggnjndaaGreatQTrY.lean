/-
  The reference's New.
-/
import Derived.Test.YtlelhhgggnjndaaGreatQTrQ
import Derived.Test.YtlelhhgggnjndaaGreatQTqV
namespace Go.Proofs.YtlelhhgggnjndaaGreat
open Go.RowKit Go.Shelf
set_option linter.unusedVariables false
set_option linter.unusedSimpArgs false
def exN (a : Int) (U : List Int) (P : List Pn) (j : Nat) (pid : Int) : Int × List Int × List Pn :=
  let s := lvF (a, U, P) pid j (P.getD j pn0).t
  (s.1, s.2.1, s.2.2.set j ⟨(s.2.2.getD j pn0).i, (s.2.2.getD j pn0).p, [pid]⟩)
structure XcS (w : World) (a : Int) (Ua : Option Addr) (um uc : Nat) (A : Option Addr) (m c : Nat) (V : World) : Prop where
  k1 : Blk V w.heap.size (tkC a Ua um uc A m c) 27
  k2 : Blk V (w.heap.size + 1) (tkC 0 none 0 0 none 0 0) 27
  b : Below w.heap.size w V
theorem XcS.step {w : World} {a : Int} {Ua : Option Addr} {um uc : Nat} {A : Option Addr} {m c : Nat} {V V' : World} (h : XcS w a Ua um uc A m c V) (b : Below V.heap.size V V') : XcS w a Ua um uc A m c V' :=
  ⟨h.k1.below b h.k1.lt, h.k2.below b h.k2.lt, h.b.trans (b.mono h.b.size)⟩
set_option maxRecDepth 100000 in
set_option maxHeartbeats 8000000 in
theorem exec_rf (a : Int) (Ua : Option Addr) (um uc : Nat) (U : List Int) (A : Option Addr) (m c : Nat) (L : List Pw) (tid pid : Int) (j : Nat) (w : World) (h : Tk w w.heap.size Ua um uc U A m c L) (hu6 : um ≤ 100000) (hof : ofR L tid = pid) (hp0 : (pid == 0) = false) (hj : j < L.length) (hf : fndF 0 L pid = (j : Int)) (hn : (L.getD j pw0).1.t ≠ []) :
    Calls Tryz.prog 33 #[tkV a Ua um uc A m c, .int .i64 tid] w fun e w' => EnR w (exN a U (L.map (·.1)) j pid) 0 e w' := by
  have k1 := (Blk.new w (tkC a Ua um uc A m c) 27).alloc (.cells (tkC 0 none 0 0 none 0 0) 27)
  have k2 := Blk.new_ (w.alloc (.cells (tkC a Ua um uc A m c) 27)) (tkC 0 none 0 0 none 0 0) 27 (n := w.heap.size + 1) (by simp)
  have B0 := ((Below.refl w.heap.size w).alloc (Nat.le_refl _) (.cells (tkC a Ua um uc A m c) 27)).alloc (by simp) (.cells (tkC 0 none 0 0 none 0 0) 27)
  have t0 := h.on B0
  have OF := Lib.hid (of_rf a Ua um uc A m c L tid _ t0.p t0.pl (by have := h.p6; omega))
  rw [hof] at OF
  have FN := Lib.hid (fun (V : World) (hV : Below w.heap.size w V) => find_rf a Ua um uc A m c L pid V (h.on hV).p h.pl (by have := h.p6; omega))
  rw [hf] at FN
  have HX := Lib.hid h
  have HJ := Lib.hid (And.intro hj (And.intro hf hu6))
  obtain ⟨S, hS⟩ : ∃ S, lvF (a, U, L.map (·.1)) pid j (L.getD j pw0).1.t = S := ⟨_, rfl⟩
  have hE : exN a U (L.map (·.1)) j pid = (S.1, S.2.1, S.2.2.set j ⟨(S.2.2.getD j pn0).i, (S.2.2.getD j pn0).p, [pid]⟩) := by
    unfold exN
    rw [show ((L.map (·.1)).getD j pn0) = (L.getD j pw0).1 by simp [List.getD, hj], hS]
  obtain ⟨E, hE0⟩ : ∃ E, (S.1, S.2.1, S.2.2.set j ⟨(S.2.2.getD j pn0).i, (S.2.2.getD j pn0).p, [pid]⟩) = E := ⟨_, rfl⟩
  rw [hE, hE0]
  have HE := Lib.hid hE0.symm
  have HP := Lib.hid (fun (V : World) (hV : Below w.heap.size w V) => (h.on hV).p.at_ j hj)
  have HT := Lib.hid (fun (V : World) (hV : Below w.heap.size w V) => (h.on hV).p.at' hj)
  have hjm : (j : Int) < (m : Int) := by have := h.pl; omega
  generalize L.getD j pw0 = x at hS hn HP HT
  obtain ⟨xn, hxn⟩ : ∃ y, x.1.t.length = y := ⟨_, rfl⟩
  have hx0 : xn ≠ 0 := fun e => hn (List.eq_nil_of_length_eq_zero (by omega))
  have hx1 : ((xn : Int) == 0) = false := by have : ¬ ((xn : Int) = 0) := by omega
                                             simpa using this
  have hx6 : xn ≤ 1000000 := by have := (HT.out w (Below.refl _ _)).l; omega
  have HXN := Lib.hid (And.intro hxn (And.intro hx0 hS))
  have hj0 : decide ((j : Int) < 0) = false := by simp
  clear h t0 hof hj hf hE hu6 hn hxn hx0 hE0 hS
  unfold tkV at OF FN ⊢
  go_enter Tryz.func33, Tryz.ntmps33
  go_wp2_with (first
    | (refine wpList_load_row rfl 27 (.tmp 2) rfl w.heap.size rfl 27 (tkC a Ua um uc A m c) (0, 0) _ k1.blk Tryz.underlying27 rfl (tk_inf _ _ _ _ _ _ _) ?_)
    | (refine OF.out.mono ?_
       clear OF
       rintro e w1 ⟨rfl, bb⟩
       have J0 : XcS w a Ua um uc A m c w1 := ⟨k1.below bb k1.lt, k2.below bb k2.lt, B0.trans (bb.mono B0.size)⟩
       clear bb B0 k1 k2
       go_wp2_with fail))
  obtain ⟨b, off, rfl, hb, _⟩ := HP.out _ J0.b
  have HTH := Lib.hid (fun (V : World) (hV : Below w.heap.size w V) => (show V.cell? ⟨b, off + j * 3 + 2, none⟩ = some (.slice x.2.1 xn x.2.2) from by
    obtain ⟨b8, off8, he8, _, hc8⟩ := HP.out _ hV
    cases he8
    rw [← HXN.out.1]
    exact hc8 2 _ rfl))
  have J := J0.step (Below.refl _ _).drew
  have FN2 := FN
  clear J0 hb
  refine region_cutP ?_
  refine wp_region_held_drew (S := XcS w a Ua um uc (some ⟨b, off, none⟩) m c) (by kernel_rfl) J (fun _ => ?_)
  refine wpAnyH_take (i := 0) (v := .pointer (some ⟨w.heap.size, 2, none⟩)) rfl (by kernel_rfl) (by kernel_rfl) (by kernel_rfl) (fun _ _ _ h => nomatch h.1) (.inl ⟨by rfl, fun V hV => by go_simp⟩) J ?_
  try simp only [Act.put, qA, qB, qC, qD, qE, qF]
  refine wpAnyH_take (i := 1) (v := .slice (some ⟨b, off, none⟩) m c) rfl (by kernel_rfl) (by kernel_rfl) (by kernel_rfl) (fun _ _ _ h => nomatch h.1) (.inl ⟨by rfl, fun V hV => by have c2 : V.cell? ⟨w.heap.size, 2, none⟩ = some (.slice (some ⟨b, off, none⟩) m c) := hV.k1.cell 2; go_simp⟩) J ?_
  try simp only [Act.put, qA, qB, qC, qD, qE, qF]
  refine wpAnyH_take (i := 2) (v := .agg (tkC a Ua um uc (some ⟨b, off, none⟩) m c)) rfl (by kernel_rfl) (by kernel_rfl) (by kernel_rfl) (fun _ _ _ h => nomatch h.1) (yieldsIf_blk (by rfl) 27 (.tmp 2) rfl w.heap.size rfl (tkC a Ua um uc (some ⟨b, off, none⟩) m c) 27 _ (fun _ h => h.k1) Tryz.underlying27 rfl (tk_inf _ _ _ _ _ _ _)) J ?_
  try simp only [Act.put, qA, qB, qC, qD, qE, qF]
  refine wpAnyH_take (i := 3) (v := .int .i64 pid) rfl (by kernel_rfl) (by kernel_rfl) (by kernel_rfl) (fun _ _ _ h => nomatch h.1) (.inl ⟨by rfl, fun V hV => by go_simp⟩) J ?_
  try simp only [Act.put, qA, qB, qC, qD, qE, qF]
  refine wpAnyH_take (i := 9) (v := .int .i64 0) rfl (by kernel_rfl) (by kernel_rfl) (by kernel_rfl) (fun _ _ _ h => nomatch h.1) (.inl ⟨by rfl, fun V hV => by go_simp⟩) J ?_
  try simp only [Act.put, qA, qB, qC, qD, qE, qF]
  refine wpAnyH_ready (rs := [4]) (by kernel_rfl) (by simp) ?_
  refine AllReadyH.cons rfl (fun K hK => ?_) AllReadyH.nil
  try simp only [Act.put, qA, qB, qC, qD, qE, qF]
  go_simp
  refine (FN.out _ J.b).mono ?_
  rintro e w6 ⟨rfl, bb⟩
  have J := J.step bb
  clear bb FN
  refine hK.out _ _ J (fun _ => ?_)
  clear hK K
  try simp only [Act.put, qA, qB, qC, qD, qE, qF]
  refine wpAnyH_take (i := 5) (v := .pointer (some ⟨b, off + j * 3, none⟩)) rfl (by kernel_rfl) (by kernel_rfl) (by kernel_rfl) (fun _ _ _ h => nomatch h.1) (.inl ⟨by rfl, fun V hV => by go_simp⟩) J ?_
  try simp only [Act.put, qA, qB, qC, qD, qE, qF]
  refine wpAnyH_take (i := 6) (v := .pointer (some ⟨b, off + j * 3 + 2, none⟩)) rfl (by kernel_rfl) (by kernel_rfl) (by kernel_rfl) (fun _ _ _ h => nomatch h.1) (.inl ⟨by rfl, fun V hV => by go_simp⟩) J ?_
  try simp only [Act.put, qA, qB, qC, qD, qE, qF]
  refine wpAnyH_take (i := 7) (v := .slice x.2.1 xn x.2.2) rfl (by kernel_rfl) (by kernel_rfl) (by kernel_rfl) (fun _ _ _ h => nomatch h.1) (.inl ⟨by rfl, fun V hV => by have c3 := HTH.out V hV.b; go_simp⟩) J ?_
  try simp only [Act.put, qA, qB, qC, qD, qE, qF]
  refine wpAnyH_take (i := 8) (v := .int .i64 xn) rfl (by kernel_rfl) (by kernel_rfl) (by kernel_rfl) (fun _ _ _ h => nomatch h.1) (.inl ⟨by rfl, fun V hV => by go_simp⟩) J ?_
  try simp only [Act.put, qA, qB, qC, qD, qE, qF]
  refine wpAnyH_done (by kernel_rfl) ?_ _
  go_wp2_with fail
  have t1 := HX.out.on J.b
  have KS0 : KlS w j pid x.1.t S 0 a Ua um uc U (some ⟨b, off, none⟩) m c L _ := ⟨J.k1, J.k2, t1, .inl rfl, HXN.out.2.2, HJ.out.1, HJ.out.2.1, HJ.out.2.2, J.b⟩
  clear t1 HX HJ J HTH FN2
  obtain ⟨X, hX⟩ : ∃ X, x.2.1 = X := ⟨_, rfl⟩
  obtain ⟨xc, hxc⟩ : ∃ X, x.2.2 = X := ⟨_, rfl⟩
  rw [hX, hxc]
  have HR := Lib.hid (fun (V : World) (hV : Below w.heap.size w V) => (show Ri7 V V.heap.size X x.1.t from by rw [← hX]; exact (HT.out V hV).ri))
  clear hX hxc HT HP hx1 hj0
  go_loopw [24] (fun i wr' => ∃ (k : Nat) (a1 : Int) (U1 : Option Addr) (um1 uc1 : Nat) (l1 : List Int) (A1 : Option Addr) (m1 c1 : Nat) (M : List Pw) (wr : World), wr = wr' ∧ k ≤ xn ∧ i = .int .i64 k ∧ Hid (KlS w j pid x.1.t S k a1 U1 um1 uc1 l1 A1 m1 c1 M wr)) (fun i _ => xn - (intOf i).toNat)
  case atStart => exact ⟨0, a, Ua, um, uc, U, _, m, c, L, _, rfl, Nat.zero_le _, rfl, Lib.hid KS0⟩
  case round =>
    clear KS0
    obtain ⟨k, a1, U1, um1, uc1, l1, A1, m1, c1, M, wr, hwr, hk, rfl, HK⟩ := hrel
    subst hwr
    by_cases hlt : k < xn
    · have hlt' : (k : Int) < (xn : Int) := by omega
      have hkl : k < x.1.t.length := by have := HXN.out.1; omega
      have K := HK.out
      obtain ⟨b5, off5, rfl, hb5, hc5⟩ := HR.out wr K.b k hkl
      have hs := K.s
      rw [List.drop_eq_getElem_cons hkl, lvF, show x.1.t[k] = x.1.t.getD k 0 by simp [List.getD, hkl]] at hs
      generalize x.1.t.getD k 0 = y at hc5 hs
      have HS := Lib.hid hs
      have LV := Lib.hid (leaves_rf a1 U1 um1 uc1 l1 A1 m1 c1 M pid y j wr K.t K.u9 K.j9 K.f)
      have k1 := K.k1
      clear hs K
      unfold tkV at LV
      go_wp2_with (first
        | (refine wpList_load_row rfl 27 (.tmp 2) rfl w.heap.size rfl 27 (tkC a1 U1 um1 uc1 A1 m1 c1) (0, 0) _ k1.blk Tryz.underlying27 rfl (tk_inf _ _ _ _ _ _ _) ?_)
        | (refine LV.out.mono ?_
           clear LV
           rintro e w2 ⟨a2, U2, um2, uc2, l2, A2, m2, c2, M2, rfl, o2, hal, hnm, bb⟩
           have k1 := k1.below bb k1.lt
           have HAL := Lib.hid (And.intro hal (And.intro hnm bb))
           clear hal hnm bb
           unfold tkV)
        | (refine wpList_store_blk rfl 27 (.tmp 2) (.tmp 31) rfl w.heap.size (tkC a1 U1 um1 uc1 A1 m1 c1) (tkC a2 U2 um2 uc2 A2 m2 c2) 27 rfl rfl k1 rfl (tk_inf _ _ _ _ _ _ _) (tk_one _ _ _ _ _ _ _) ?_
           intro w3 k3 n3
           have K3 : KlS w j pid x.1.t S (k + 1) a2 U2 um2 uc2 l2 A2 m2 c2 M2 w3 := by
             have K := HK.out
             have hal := HAL.out.1
             have hnm := HAL.out.2.1
             have bb := HAL.out.2.2
             have o3 := o2.kind n3 k1 (by decide) (by decide)
             have hul := lv_ulen hal
             have hu2 := o2.u.len
             have hu1 := K.t.ul
             have hu9 := K.u9
             have hml := lv_len hnm
             have hm1 := K.t.pl
             have hm2 := o2.p.len
             have hm6 := K.t.p6
             have hcn := lv_cnt K.j9 hnm
             have hn1 := K.t.n
             rw [thr_cnt] at hn1
             have hj9 := K.j9
             refine ⟨k3, (n3.blk7 (K.k2.below bb K.k2.lt) (by omega)), o3.tk (by omega) (by omega) (by omega), .inr ⟨wr.heap.size, K.k2.lt, Nat.le_trans bb.size n3.size, o3⟩, ?_, by omega, ?_, by omega, (K.b.trans (bb.mono K.b.size)).trans (n3.below _ (Nat.le_refl _) (Nat.le_trans K.b.size bb.size))⟩
             · rw [← lv_step K.j9 hal hnm]
               exact HS.out
             · rw [fnd_ids 0 pid (lv_ids K.j9 hnm)]
               exact K.f
           clear n3 k1 k3 o2))
      go_roundw
      case rel => exact ⟨k + 1, a2, U2, um2, uc2, l2, A2, m2, c2, M2, _, rfl, by omega, by go_num, Lib.hid K3⟩
      case measure => simp [intOf]; omega
    · obtain rfl : k = xn := by omega
      have K := HK.out
      have hs := K.s
      rw [List.drop_of_length_le (by have := HXN.out.1; omega), lvF] at hs
      obtain ⟨B, hB1, hB2, o⟩ : ∃ B, w.heap.size + 2 ≤ B ∧ B ≤ wr.heap.size ∧ OwnW wr B U1 um1 uc1 l1 A1 m1 c1 M := by
        rcases K.o with h | h
        · exact absurd h HXN.out.2.1
        · exact h
      rcases S with ⟨s1, s2, s3⟩
      have hs1 : a1 = s1 := congrArg (·.1) hs
      have hs2 : l1 = s2 := congrArg (·.2.1) hs
      have hs3 : M.map (·.1) = s3 := congrArg (·.2.2) hs
      subst hs1 hs2 hs3
      have hjM := K.j9
      obtain ⟨gP, hA, hgP, hgPl⟩ := o.p.at0 (by omega)
      subst hA
      have J0 : LvS w a1 U1 um1 uc1 gP m1 c1 wr := ⟨K.k1, K.k2, K.b⟩
      have hxq : ∀ x ∈ M, x.1.t.length ≤ 1000000 := fun x hx => (K.t.p.tr x hx).l
      have FM := Lib.hid (fun (V : World) (hV : OwnW V B U1 um1 uc1 l1 (some ⟨gP, 0, none⟩) m1 c1 M) => find_rf a1 U1 um1 uc1 (some ⟨gP, 0, none⟩) m1 c1 M pid V (hV.ps hxq) K.t.pl (by have := K.t.p6; omega))
      rw [K.f] at FM
      have HB := Lib.hid (And.intro K.u9 (And.intro K.t.p6 (And.intro hB1 hB2)))
      have HJM := Lib.hid hjM
      have hjm : (j : Int) < (m1 : Int) := by have := K.t.pl; omega
      unfold tkV at FM
      have hE := HE.out
      have HE1 := Lib.hid (show E = (a1, l1, (M.map (·.1)).set j ⟨((M.map (·.1)).getD j pn0).i, ((M.map (·.1)).getD j pn0).p, [pid]⟩) from hE)
      clear hs K hxq hgPl HK hB1 hgP hjM hE HE
      go_wp2_with fail
      have J := J0.step (Below.refl _ _).drew
      have O := o.below (Below.refl _ _).drew (Nat.le_refl _)
      have hS : B ≤ wr.drew.heap.size := Nat.le_trans hB2 (Below.refl wr.heap.size wr).drew.size
      clear J0 o hB2
      refine region_cutP ?_
      refine wp_region_held_drew (S := LvS w a1 U1 um1 uc1 gP m1 c1) (by kernel_rfl) J (fun _ => ?_)
      generalize wr.drew = W0 at J O hS ⊢
      refine wpAnyH_take (i := 0) (v := .pointer (some ⟨w.heap.size, 2, none⟩)) rfl (by kernel_rfl) (by kernel_rfl) (by kernel_rfl) (fun _ _ _ h => nomatch h.1) (.inl ⟨by rfl, fun V hV => by go_simp⟩) J ?_
      try simp only [Act.put, qA, qB, qC, qD, qE, qF]
      refine wpAnyH_take (i := 1) (v := .slice (some ⟨gP, 0, none⟩) m1 c1) rfl (by kernel_rfl) (by kernel_rfl) (by kernel_rfl) (fun _ _ _ h => nomatch h.1) (.inl ⟨by rfl, fun V hV => by have c2 : V.cell? ⟨w.heap.size, 2, none⟩ = some (.slice (some ⟨gP, 0, none⟩) m1 c1) := hV.1.cell 2; go_simp⟩) J ?_
      try simp only [Act.put, qA, qB, qC, qD, qE, qF]
      refine wpAnyH_take (i := 2) (v := .agg (tkC a1 U1 um1 uc1 (some ⟨gP, 0, none⟩) m1 c1)) rfl (by kernel_rfl) (by kernel_rfl) (by kernel_rfl) (fun _ _ _ h => nomatch h.1) (yieldsIf_blk (by rfl) 27 (.tmp 2) rfl w.heap.size rfl (tkC a1 U1 um1 uc1 (some ⟨gP, 0, none⟩) m1 c1) 27 _ (fun _ h => h.1) Tryz.underlying27 rfl (tk_inf _ _ _ _ _ _ _)) J ?_
      try simp only [Act.put, qA, qB, qC, qD, qE, qF]
      refine wpAnyH_take (i := 3) (v := .int .i64 pid) rfl (by kernel_rfl) (by kernel_rfl) (by kernel_rfl) (fun _ _ _ h => nomatch h.1) (.inl ⟨by rfl, fun V hV => by go_simp⟩) J ?_
      try simp only [Act.put, qA, qB, qC, qD, qE, qF]
      refine wpAnyH_take (i := 5) (v := .int .i64 pid) rfl (by kernel_rfl) (by kernel_rfl) (by kernel_rfl) (fun _ _ _ h => nomatch h.1) (.inl ⟨by rfl, fun V hV => by go_simp⟩) J ?_
      try simp only [Act.put, qA, qB, qC, qD, qE, qF]
      refine wpAnyH_ready (rs := [4, 6]) (by kernel_rfl) (by simp) ?_
      refine AllReadyH.cons rfl (fun K hK => ?_) (AllReadyH.cons rfl (fun K hK => ?_) AllReadyH.nil)
      · try simp only [Act.put, qA, qB, qC, qD, qE, qF]
        go_simp
        refine (FM.out _ O).mono ?_
        rintro e w6 ⟨rfl, bb⟩
        have J := J.step bb
        have O := O.below bb (Nat.le_refl _)
        have hS := Nat.le_trans hS bb.size
        clear bb FM
        refine hK.out _ _ J (fun _ => ?_)
        clear hK K
        try simp only [Act.put, qA, qB, qC, qD, qE, qF]
        refine wpAnyH_ready (rs := [6]) (by kernel_rfl) (by simp) ?_
        refine AllReadyH.cons rfl (fun K hK => ?_) AllReadyH.nil
        try simp only [Act.put, qA, qB, qC, qD, qE, qF]
        go_simp
        obtain ⟨gi, egi⟩ : ∃ gi, gi = (w6).heap.size := ⟨_, rfl⟩
        have kI := Blk.new_ (w6) #[.int .i64 pid] 3 egi.symm
        have ba : Below (w6).heap.size (w6) ((w6).alloc (.cells #[.int .i64 pid] 3)) := (Below.refl _ _).alloc (Nat.le_refl _) _
        have hgi : B ≤ gi := by rw [egi]; exact hS
        have J := J.step ba
        have O := O.below ba (Nat.le_refl _)
        have hS := Nat.le_trans hS ba.size
        rw [← egi]
        generalize (w6).alloc (.cells #[.int .i64 pid] 3) = W1 at kI J O hS ⊢
        clear egi ba
        refine hK.out _ _ J (fun _ => ?_)
        clear hK K
        try simp only [Act.put, qA, qB, qC, qD, qE, qF]
        refine wpAnyH_take (i := 7) (v := .pointer (some ⟨gP, j * 3, none⟩)) rfl (by kernel_rfl) (by kernel_rfl) (by kernel_rfl) (fun _ _ _ h => nomatch h.1) (.inl ⟨by rfl, fun V hV => by go_simp⟩) J ?_
        try simp only [Act.put, qA, qB, qC, qD, qE, qF]
        refine wpAnyH_take (i := 8) (v := .pointer (some ⟨gP, j * 3 + 2, none⟩)) rfl (by kernel_rfl) (by kernel_rfl) (by kernel_rfl) (fun _ _ _ h => nomatch h.1) (.inl ⟨by rfl, fun V hV => by go_simp⟩) J ?_
        try simp only [Act.put, qA, qB, qC, qD, qE, qF]
        have hjM := HJM.out
        have z1 : Zo (W1) B (some ⟨gi, 0, none⟩) 1 1 [pid] := zo_block hgi kI.blk (Nat.le_refl _) (by simp [maxLen]) rfl rfl rfl
        obtain ⟨b8, off8, he8, _, hc8⟩ := O.p.rs j hjM
        cases he8
        rw [Nat.zero_add] at hc8
        obtain ⟨xx, hxx⟩ : ∃ y, M.getD j pw0 = y := ⟨_, rfl⟩
        have r1 : (W1).cell? ⟨gP, j * 3 + 2, none⟩ = some (.slice xx.2.1 xx.1.t.length xx.2.2) := by rw [← hxx]; exact hc8 2 _ rfl
        have f1 := World.ownsRow.frozenAt O.p (j * 3 + 2)
        have HO4 := Lib.hid (O.setTh hjM z1)
        have HJ4 := Lib.hid (J.set (O.down (by have := HB.out.2.2.1; omega)) hjM (.slice (some ⟨gi, 0, none⟩) 1 1))
        clear hc8 O hjM z1 hxx
        refine wpAnyH_ready (rs := [9]) (by kernel_rfl) (by simp) ?_
        refine AllReadyH.cons rfl (fun K hK => ?_) AllReadyH.nil
        try simp only [Act.put, qA, qB, qC, qD, qE, qF]
        go_simp
        refine hK.out _ _ HJ4.out (fun _ => ?_)
        clear hK K
        try simp only [Act.put, qA, qB, qC, qD, qE, qF]
        refine wpAnyH_done (by kernel_rfl) ?_ _
        refine ⟨rfl, ?_⟩
        obtain ⟨w4, hw4⟩ : ∃ W, (W1).setCell ⟨gP, j * 3 + 2, none⟩ (.slice (some ⟨gi, 0, none⟩) 1 1) = W := ⟨_, rfl⟩
        rw [hw4] at HO4 HJ4 ⊢
        clear hw4 J r1 f1
        have J4 := HJ4.out
        have o4 := HO4.out
        go_wp2_with (first
          | (refine wpList_load_row rfl 27 (.tmp 2) rfl w.heap.size rfl 27 (tkC a1 U1 um1 uc1 (some ⟨gP, 0, none⟩) m1 c1) (0, 0) _ J4.1.blk Tryz.underlying27 rfl (tk_inf _ _ _ _ _ _ _) ?_)
          | (refine wpList_store_blk rfl 27 (.tmp 4) (.tmp 42) rfl (w.heap.size + 1) (tkC 0 none 0 0 none 0 0) (tkC a1 U1 um1 uc1 (some ⟨gP, 0, none⟩) m1 c1) 27 rfl rfl J4.2.1 rfl (tk_inf _ _ _ _ _ _ _) (tk_one _ _ _ _ _ _ _) ?_
             intro w7 k7 n7))
        refine bodyPost_ret (results_row_tmp rfl _ _ (w.heap.size + 1) 27 (tkC a1 U1 um1 uc1 (some ⟨gP, 0, none⟩) m1 c1) (0, 0) _ rfl k7.blk Tryz.underlying27 rfl (tk_inf _ _ _ _ _ _ _) (.int .i64 0) rfl) rfl ?_
        exact ⟨U1, um1, uc1, _, m1, c1, _, by rw [HE1.out]; rfl, by rw [HE1.out]; exact (o4.kind n7 J4.2.1 (by decide) (by decide)).down (by have := HB.out.2.2.1; omega), by rw [HE1.out, List.map_set, show ((M.map (·.1)).getD j pn0) = (M.getD j pw0).1 by have := HJM.out; simp [List.getD, this]]; rfl, HB.out.1, HB.out.2.1, J4.2.2.trans (n7.below _ (by omega) J4.2.2.size)⟩
      · try simp only [Act.put, qA, qB, qC, qD, qE, qF]
        go_simp
        obtain ⟨gi, egi⟩ : ∃ gi, gi = (W0).heap.size := ⟨_, rfl⟩
        have kI := Blk.new_ (W0) #[.int .i64 pid] 3 egi.symm
        have ba : Below (W0).heap.size (W0) ((W0).alloc (.cells #[.int .i64 pid] 3)) := (Below.refl _ _).alloc (Nat.le_refl _) _
        have hgi : B ≤ gi := by rw [egi]; exact hS
        have J := J.step ba
        have O := O.below ba (Nat.le_refl _)
        have hS := Nat.le_trans hS ba.size
        rw [← egi]
        generalize (W0).alloc (.cells #[.int .i64 pid] 3) = W1 at kI J O hS ⊢
        clear egi ba
        refine hK.out _ _ J (fun _ => ?_)
        clear hK K
        try simp only [Act.put, qA, qB, qC, qD, qE, qF]
        refine wpAnyH_ready (rs := [4]) (by kernel_rfl) (by simp) ?_
        refine AllReadyH.cons rfl (fun K hK => ?_) AllReadyH.nil
        try simp only [Act.put, qA, qB, qC, qD, qE, qF]
        go_simp
        refine (FM.out _ O).mono ?_
        rintro e w6 ⟨rfl, bb⟩
        have J := J.step bb
        have O := O.below bb (Nat.le_refl _)
        have hS := Nat.le_trans hS bb.size
        have kI := kI.below bb kI.lt
        clear bb FM
        refine hK.out _ _ J (fun _ => ?_)
        clear hK K
        try simp only [Act.put, qA, qB, qC, qD, qE, qF]
        refine wpAnyH_take (i := 7) (v := .pointer (some ⟨gP, j * 3, none⟩)) rfl (by kernel_rfl) (by kernel_rfl) (by kernel_rfl) (fun _ _ _ h => nomatch h.1) (.inl ⟨by rfl, fun V hV => by go_simp⟩) J ?_
        try simp only [Act.put, qA, qB, qC, qD, qE, qF]
        refine wpAnyH_take (i := 8) (v := .pointer (some ⟨gP, j * 3 + 2, none⟩)) rfl (by kernel_rfl) (by kernel_rfl) (by kernel_rfl) (fun _ _ _ h => nomatch h.1) (.inl ⟨by rfl, fun V hV => by go_simp⟩) J ?_
        try simp only [Act.put, qA, qB, qC, qD, qE, qF]
        have hjM := HJM.out
        have z1 : Zo (w6) B (some ⟨gi, 0, none⟩) 1 1 [pid] := zo_block hgi kI.blk (Nat.le_refl _) (by simp [maxLen]) rfl rfl rfl
        obtain ⟨b8, off8, he8, _, hc8⟩ := O.p.rs j hjM
        cases he8
        rw [Nat.zero_add] at hc8
        obtain ⟨xx, hxx⟩ : ∃ y, M.getD j pw0 = y := ⟨_, rfl⟩
        have r1 : (w6).cell? ⟨gP, j * 3 + 2, none⟩ = some (.slice xx.2.1 xx.1.t.length xx.2.2) := by rw [← hxx]; exact hc8 2 _ rfl
        have f1 := World.ownsRow.frozenAt O.p (j * 3 + 2)
        have HO4 := Lib.hid (O.setTh hjM z1)
        have HJ4 := Lib.hid (J.set (O.down (by have := HB.out.2.2.1; omega)) hjM (.slice (some ⟨gi, 0, none⟩) 1 1))
        clear hc8 O hjM z1 hxx
        refine wpAnyH_ready (rs := [9]) (by kernel_rfl) (by simp) ?_
        refine AllReadyH.cons rfl (fun K hK => ?_) AllReadyH.nil
        try simp only [Act.put, qA, qB, qC, qD, qE, qF]
        go_simp
        refine hK.out _ _ HJ4.out (fun _ => ?_)
        clear hK K
        try simp only [Act.put, qA, qB, qC, qD, qE, qF]
        refine wpAnyH_done (by kernel_rfl) ?_ _
        refine ⟨rfl, ?_⟩
        obtain ⟨w4, hw4⟩ : ∃ W, (w6).setCell ⟨gP, j * 3 + 2, none⟩ (.slice (some ⟨gi, 0, none⟩) 1 1) = W := ⟨_, rfl⟩
        rw [hw4] at HO4 HJ4 ⊢
        clear hw4 J r1 f1
        have J4 := HJ4.out
        have o4 := HO4.out
        go_wp2_with (first
          | (refine wpList_load_row rfl 27 (.tmp 2) rfl w.heap.size rfl 27 (tkC a1 U1 um1 uc1 (some ⟨gP, 0, none⟩) m1 c1) (0, 0) _ J4.1.blk Tryz.underlying27 rfl (tk_inf _ _ _ _ _ _ _) ?_)
          | (refine wpList_store_blk rfl 27 (.tmp 4) (.tmp 42) rfl (w.heap.size + 1) (tkC 0 none 0 0 none 0 0) (tkC a1 U1 um1 uc1 (some ⟨gP, 0, none⟩) m1 c1) 27 rfl rfl J4.2.1 rfl (tk_inf _ _ _ _ _ _ _) (tk_one _ _ _ _ _ _ _) ?_
             intro w7 k7 n7))
        refine bodyPost_ret (results_row_tmp rfl _ _ (w.heap.size + 1) 27 (tkC a1 U1 um1 uc1 (some ⟨gP, 0, none⟩) m1 c1) (0, 0) _ rfl k7.blk Tryz.underlying27 rfl (tk_inf _ _ _ _ _ _ _) (.int .i64 0) rfl) rfl ?_
        exact ⟨U1, um1, uc1, _, m1, c1, _, by rw [HE1.out]; rfl, by rw [HE1.out]; exact (o4.kind n7 J4.2.1 (by decide) (by decide)).down (by have := HB.out.2.2.1; omega), by rw [HE1.out, List.map_set, show ((M.map (·.1)).getD j pn0) = (M.getD j pw0).1 by have := HJM.out; simp [List.getD, this]]; rfl, HB.out.1, HB.out.2.1, J4.2.2.trans (n7.below _ (by omega) J4.2.2.size)⟩
set_option maxRecDepth 100000 in
set_option maxHeartbeats 8000000 in
theorem execN_rf (a : Int) (Ua : Option Addr) (um uc : Nat) (U : List Int) (A : Option Addr) (m c : Nat) (L : List Pw) (tid : Int) (w : World) (h : Tk w w.heap.size Ua um uc U A m c L) (hof : ofR L tid = 0) :
    Calls Tryz.prog 33 #[tkV a Ua um uc A m c, .int .i64 tid] w fun e w' => e = .returned (.tuple #[tkV 0 none 0 0 none 0 0, .int .i64 25]) ∧ Below w.heap.size w w' := by
  have k1 := (Blk.new w (tkC a Ua um uc A m c) 27).alloc (.cells (tkC 0 none 0 0 none 0 0) 27)
  have k2 := Blk.new_ (w.alloc (.cells (tkC a Ua um uc A m c) 27)) (tkC 0 none 0 0 none 0 0) 27 (n := w.heap.size + 1) (by simp)
  have B0 := ((Below.refl w.heap.size w).alloc (Nat.le_refl _) (.cells (tkC a Ua um uc A m c) 27)).alloc (by simp) (.cells (tkC 0 none 0 0 none 0 0) 27)
  have t0 := h.on B0
  have OF := Lib.hid (of_rf a Ua um uc A m c L tid _ t0.p t0.pl (by have := h.p6; omega))
  rw [hof] at OF
  clear h t0 hof
  unfold tkV at OF ⊢
  go_enter Tryz.func33, Tryz.ntmps33
  go_wp2_with (first
    | (refine wpList_load_row rfl 27 (.tmp 2) rfl w.heap.size rfl 27 (tkC a Ua um uc A m c) (0, 0) _ k1.blk Tryz.underlying27 rfl (tk_inf _ _ _ _ _ _ _) ?_)
    | (refine OF.out.mono ?_
       clear OF
       rintro e w1 ⟨rfl, bb⟩
       have k21 := k2.below bb k2.lt
       have B1 := B0.trans (bb.mono B0.size)
       clear bb B0 k1 k2)
    | (refine wpList_store_blk rfl 27 (.tmp 4) (.tmp 14) rfl (w.heap.size + 1) (tkC 0 none 0 0 none 0 0) (tkC 0 none 0 0 none 0 0) 27 rfl rfl k21 rfl (tk_inf _ _ _ _ _ _ _) (tk_one _ _ _ _ _ _ _) ?_
       intro w7 k7 n7))
  refine bodyPost_ret (results_row_tmp rfl _ _ (w.heap.size + 1) 27 (tkC 0 none 0 0 none 0 0) (0, 0) _ rfl k7.blk Tryz.underlying27 rfl (tk_inf _ _ _ _ _ _ _) (.int .i64 25) rfl) rfl ?_
  exact ⟨rfl, B1.trans (n7.below _ (by omega) B1.size)⟩
end Go.Proofs.YtlelhhgggnjndaaGreat
namespace Go.Proofs.YtlelhhgggnjndaaGreat
open Go.RowKit Go.Shelf
set_option linter.unusedVariables false
set_option linter.unusedSimpArgs false
set_option maxRecDepth 100000 in
set_option maxHeartbeats 8000000 in
theorem newN_rf (a : Int) (Ua : Option Addr) (um uc : Nat) (U : List Int) (A : Option Addr) (m c : Nat) (L : List Pw) (tid : Int) (th : Bool) (w : World) (h : Tk w w.heap.size Ua um uc U A m c L) (hof : ofR L tid = 0) :
    Calls Tryz.prog 32 #[tkV a Ua um uc A m c, .int .i64 tid, .bool th] w fun e w' => e = .returned (.tuple #[tkV 0 none 0 0 none 0 0, .int .i64 0, .int .i64 25]) ∧ Below w.heap.size w w' := by
  have k1 := (Blk.new w (tkC a Ua um uc A m c) 27).alloc (.cells (tkC 0 none 0 0 none 0 0) 27)
  have k2 := Blk.new_ (w.alloc (.cells (tkC a Ua um uc A m c) 27)) (tkC 0 none 0 0 none 0 0) 27 (n := w.heap.size + 1) (by simp)
  have B0 := ((Below.refl w.heap.size w).alloc (Nat.le_refl _) (.cells (tkC a Ua um uc A m c) 27)).alloc (by simp) (.cells (tkC 0 none 0 0 none 0 0) 27)
  have t0 := h.on B0
  have OF := Lib.hid (of_rf a Ua um uc A m c L tid _ t0.p t0.pl (by have := h.p6; omega))
  rw [hof] at OF
  clear h t0 hof
  unfold tkV at OF ⊢
  go_enter Tryz.func32, Tryz.ntmps32
  go_wp2_with (first
    | (refine wpList_load_row rfl 27 (.tmp 3) rfl w.heap.size rfl 27 (tkC a Ua um uc A m c) (0, 0) _ k1.blk Tryz.underlying27 rfl (tk_inf _ _ _ _ _ _ _) ?_)
    | (refine OF.out.mono ?_
       clear OF
       rintro e w1 ⟨rfl, bb⟩
       have k21 := k2.below bb k2.lt
       have B1 := B0.trans (bb.mono B0.size)
       clear bb B0 k1 k2)
    | (refine wpList_store_blk rfl 27 (.tmp 6) (.tmp 25) rfl (w.heap.size + 1) (tkC 0 none 0 0 none 0 0) (tkC 0 none 0 0 none 0 0) 27 rfl rfl k21 rfl (tk_inf _ _ _ _ _ _ _) (tk_one _ _ _ _ _ _ _) ?_
       intro w7 k7 n7))
  refine bodyPost_ret (results_row_t2 rfl _ _ (w.heap.size + 1) 27 (tkC 0 none 0 0 none 0 0) _ rfl k7 Tryz.underlying27 rfl (tk_inf _ _ _ _ _ _ _) _ _ rfl rfl) rfl ?_
  exact ⟨rfl, B1.trans (n7.below _ (by omega) B1.size)⟩
set_option maxRecDepth 100000 in
set_option maxHeartbeats 8000000 in
theorem newF_rf (a : Int) (Ua : Option Addr) (um uc : Nat) (U : List Int) (A : Option Addr) (m c : Nat) (L : List Pw) (tid pid : Int) (th : Bool) (w : World) (h : Tk w w.heap.size Ua um uc U A m c L) (hof : ofR L tid = pid) (hp0 : (pid == 0) = false) (hN : (tidF L).length ≤ 1000) (hfull : 8 ≤ (withs [] (tidF L)).length) :
    Calls Tryz.prog 32 #[tkV a Ua um uc A m c, .int .i64 tid, .bool th] w fun e w' => e = .returned (.tuple #[tkV 0 none 0 0 none 0 0, .int .i64 0, .int .i64 24]) ∧ Below w.heap.size w w' := by
  have k1 := (Blk.new w (tkC a Ua um uc A m c) 27).alloc (.cells (tkC 0 none 0 0 none 0 0) 27)
  have k2 := Blk.new_ (w.alloc (.cells (tkC a Ua um uc A m c) 27)) (tkC 0 none 0 0 none 0 0) 27 (n := w.heap.size + 1) (by simp)
  have B0 := ((Below.refl w.heap.size w).alloc (Nat.le_refl _) (.cells (tkC a Ua um uc A m c) 27)).alloc (by simp) (.cells (tkC 0 none 0 0 none 0 0) 27)
  have t0 := h.on B0
  have OF := Lib.hid (of_rf a Ua um uc A m c L tid _ t0.p t0.pl (by have := h.p6; omega))
  rw [hof] at OF
  have LV := Lib.hid (fun (V : World) (hV : Below w.heap.size w V) => rlive_tk a Ua um uc A m c L V (h.on hV).p h.pl (by have := h.p6; omega) hN)
  obtain ⟨n, hn⟩ : ∃ n, (withs [] (tidF L)).length = n := ⟨_, rfl⟩
  rw [hn] at hfull
  have HNL := Lib.hid hn
  have hi8 : (8 : Int) ≤ (n : Int) := by omega
  clear h t0 hof hn hN
  unfold tkV at OF LV ⊢
  go_enter Tryz.func32, Tryz.ntmps32
  go_wp2_with (first
    | (refine wpList_load_row rfl 27 (.tmp 3) rfl w.heap.size rfl 27 (tkC a Ua um uc A m c) (0, 0) _ k1.blk Tryz.underlying27 rfl (tk_inf _ _ _ _ _ _ _) ?_)
    | (refine OF.out.mono ?_
       clear OF
       rintro e w1 ⟨rfl, bb⟩
       have k1 := k1.below bb k1.lt
       have k2 := k2.below bb k2.lt
       have B1 := B0.trans (bb.mono B0.size)
       clear bb B0)
    | (refine (LV.out _ B1).mono ?_
       clear LV
       rintro e w2 ⟨G, gm, gc, rfl, z1, bb⟩
       have k11 := k1.below bb k1.lt
       have q2 : w2.cell? ⟨w.heap.size, 2, none⟩ = some (.slice A m c) := k11.cell 2
       have k21 := k2.below bb k2.lt
       have B2 := B1.trans (bb.mono B1.size)
       obtain rfl : gm = n := z1.len.trans HNL.out
       clear bb z1 B1 k1 k2)
    | (refine wpList_store_blk rfl 27 (.tmp 6) (.tmp 40) rfl (w.heap.size + 1) (tkC 0 none 0 0 none 0 0) (tkC 0 none 0 0 none 0 0) 27 rfl rfl k21 rfl (tk_inf _ _ _ _ _ _ _) (tk_one _ _ _ _ _ _ _) ?_
       intro w7 k7 n7))
  refine bodyPost_ret (results_row_t2 rfl _ _ (w.heap.size + 1) 27 (tkC 0 none 0 0 none 0 0) _ rfl k7 Tryz.underlying27 rfl (tk_inf _ _ _ _ _ _ _) _ _ rfl rfl) rfl ?_
  exact ⟨rfl, B2.trans (n7.below _ (by omega) B2.size)⟩
set_option maxRecDepth 100000 in
set_option maxHeartbeats 8000000 in
theorem newP_rf (a : Int) (Ua : Option Addr) (um uc : Nat) (U : List Int) (A : Option Addr) (m c : Nat) (L : List Pw) (tid pid : Int) (w : World) (h : Tk w w.heap.size Ua um uc U A m c L) (hof : ofR L tid = pid) (hp0 : (pid == 0) = false) (hN : (tidF L).length ≤ 1000) (hfull : (withs [] (tidF L)).length < 8 ∧ 6 ≤ m) :
    Calls Tryz.prog 32 #[tkV a Ua um uc A m c, .int .i64 tid, .bool true] w fun e w' => e = .returned (.tuple #[tkV 0 none 0 0 none 0 0, .int .i64 0, .int .i64 24]) ∧ Below w.heap.size w w' := by
  have k1 := (Blk.new w (tkC a Ua um uc A m c) 27).alloc (.cells (tkC 0 none 0 0 none 0 0) 27)
  have k2 := Blk.new_ (w.alloc (.cells (tkC a Ua um uc A m c) 27)) (tkC 0 none 0 0 none 0 0) 27 (n := w.heap.size + 1) (by simp)
  have B0 := ((Below.refl w.heap.size w).alloc (Nat.le_refl _) (.cells (tkC a Ua um uc A m c) 27)).alloc (by simp) (.cells (tkC 0 none 0 0 none 0 0) 27)
  have t0 := h.on B0
  have OF := Lib.hid (of_rf a Ua um uc A m c L tid _ t0.p t0.pl (by have := h.p6; omega))
  rw [hof] at OF
  have LV := Lib.hid (fun (V : World) (hV : Below w.heap.size w V) => rlive_tk a Ua um uc A m c L V (h.on hV).p h.pl (by have := h.p6; omega) hN)
  obtain ⟨n, hn⟩ : ∃ n, (withs [] (tidF L)).length = n := ⟨_, rfl⟩
  rw [hn] at hfull
  have HNL := Lib.hid hn
  have hf1 := hfull.1
  have hf2 := hfull.2
  have hi8 : ¬ (8 : Int) ≤ (n : Int) := by omega
  have hi6 : (6 : Int) ≤ (m : Int) := by omega
  clear h t0 hof hn hN hfull
  unfold tkV at OF LV ⊢
  go_enter Tryz.func32, Tryz.ntmps32
  go_wp2_with (first
    | (refine wpList_load_row rfl 27 (.tmp 3) rfl w.heap.size rfl 27 (tkC a Ua um uc A m c) (0, 0) _ k1.blk Tryz.underlying27 rfl (tk_inf _ _ _ _ _ _ _) ?_)
    | (refine OF.out.mono ?_
       clear OF
       rintro e w1 ⟨rfl, bb⟩
       have k1 := k1.below bb k1.lt
       have k2 := k2.below bb k2.lt
       have B1 := B0.trans (bb.mono B0.size)
       clear bb B0)
    | (refine (LV.out _ B1).mono ?_
       clear LV
       rintro e w2 ⟨G, gm, gc, rfl, z1, bb⟩
       have k11 := k1.below bb k1.lt
       have q2 : w2.cell? ⟨w.heap.size, 2, none⟩ = some (.slice A m c) := k11.cell 2
       have k21 := k2.below bb k2.lt
       have B2 := B1.trans (bb.mono B1.size)
       obtain rfl : gm = n := z1.len.trans HNL.out
       clear bb z1 B1 k1 k2)
    | (refine wpList_store_blk rfl 27 (.tmp 6) (.tmp 40) rfl (w.heap.size + 1) (tkC 0 none 0 0 none 0 0) (tkC 0 none 0 0 none 0 0) 27 rfl rfl k21 rfl (tk_inf _ _ _ _ _ _ _) (tk_one _ _ _ _ _ _ _) ?_
       intro w7 k7 n7))
  refine bodyPost_ret (results_row_t2 rfl _ _ (w.heap.size + 1) 27 (tkC 0 none 0 0 none 0 0) _ rfl k7 Tryz.underlying27 rfl (tk_inf _ _ _ _ _ _ _) _ _ rfl rfl) rfl ?_
  exact ⟨rfl, B2.trans (n7.below _ (by omega) B2.size)⟩
end Go.Proofs.YtlelhhgggnjndaaGreat
