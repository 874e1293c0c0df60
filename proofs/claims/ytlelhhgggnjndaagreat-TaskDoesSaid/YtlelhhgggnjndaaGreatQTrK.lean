/-
  The reference's Kill.
-/
import Derived.Test.YtlelhhgggnjndaaGreatQTrN
namespace Go.Proofs.YtlelhhgggnjndaaGreat
open Go.RowKit Go.Shelf
set_option linter.unusedVariables false
set_option linter.unusedSimpArgs false
def lvF (s : Int × List Int × List Pn) (pid : Int) (j : Nat) : List Int → Int × List Int × List Pn
  | [] => s
  | x :: xs => lvF (lvN s.1 s.2.1 s.2.2 j pid x) pid j xs
def klN (a : Int) (U : List Int) (P : List Pn) (j : Nat) (pid : Int) : Int × List Int × List Pn := edEnd (edF (lvF (a, U, P) pid j (P.getD j pn0).t) (kidF (ofN (lvF (a, U, P) pid j (P.getD j pn0).t).2.2) pid)) pid
theorem lv_step {a a' : Int} {U U' : List Int} {L M : List Pw} {j : Nat} {pid tid : Int} (hj : j < L.length) (hal : (a', U') = (if (tid != pid) = true then ((rfreeV a U tid).1, (rfreeV a U tid).2.1) else (a, U))) (hnm : M.map (·.1) = (L.map (·.1)).set j ⟨(L.getD j pw0).1.i, (L.getD j pw0).1.p, woutF (L.getD j pw0).1.t tid⟩) : lvN a U (L.map (·.1)) j pid tid = (a', U', M.map (·.1)) := by
  unfold lvN
  rw [show ((L.map (·.1)).getD j pn0) = (L.getD j pw0).1 by simp [List.getD, hj], ← hnm, ← hal]
theorem lv_len {L M : List Pw} {j : Nat} {v : Pn} (h : M.map (·.1) = (L.map (·.1)).set j v) : M.length = L.length := by have h1 := congrArg List.length h; simpa using h1
theorem lv_cnt {L M : List Pw} {j : Nat} {tid : Int} (hj : j < L.length) (hnm : M.map (·.1) = (L.map (·.1)).set j ⟨(L.getD j pw0).1.i, (L.getD j pw0).1.p, woutF (L.getD j pw0).1.t tid⟩) : cntT (M.map (·.1)) ≤ cntT (L.map (·.1)) := by
  have h1 := cnt_set (P := L.map (·.1)) (p := j) (x := ⟨(L.getD j pw0).1.i, (L.getD j pw0).1.p, woutF (L.getD j pw0).1.t tid⟩) (by simpa using hj)
  rw [← hnm, show ((L.map (·.1)).getD j pn0) = (L.getD j pw0).1 by simp [List.getD, hj]] at h1
  have h2 : (woutF (L.getD j pw0).1.t tid).length ≤ (L.getD j pw0).1.t.length := List.length_filter_le _ _
  simp only at h1
  omega
theorem lv_ulen {a a' : Int} {U U' : List Int} {pid tid : Int} (hal : (a', U') = (if (tid != pid) = true then ((rfreeV a U tid).1, (rfreeV a U tid).2.1) else (a, U))) : U'.length ≤ U.length := by
  have h2 := congrArg (fun s => s.2.length) hal
  simp only at h2
  have h5 := rfree_len a U tid
  split at h2
  · simp only at h2; omega
  · simp only at h2; omega
structure KlS (w : World) (j : Nat) (pid : Int) (xs : List Int) (S : Int × List Int × List Pn) (k : Nat) (a : Int) (Ua : Option Addr) (um uc : Nat) (U : List Int) (A : Option Addr) (m c : Nat) (L : List Pw) (V : World) : Prop where
  k1 : Blk V w.heap.size (tkC a Ua um uc A m c) 27
  k2 : Blk V (w.heap.size + 1) (tkC 0 none 0 0 none 0 0) 27
  t : Tk V V.heap.size Ua um uc U A m c L
  o : k = 0 ∨ ∃ B, w.heap.size + 2 ≤ B ∧ B ≤ V.heap.size ∧ OwnW V B Ua um uc U A m c L
  s : lvF (a, U, L.map (·.1)) pid j (xs.drop k) = S
  j9 : j < L.length
  f : fndF 0 L pid = (j : Int)
  u9 : um ≤ 100000
  b : Below w.heap.size w V
set_option maxRecDepth 100000 in
set_option maxHeartbeats 8000000 in
theorem kill_rf (a : Int) (Ua : Option Addr) (um uc : Nat) (U : List Int) (A : Option Addr) (m c : Nat) (L : List Pw) (pid : Int) (j : Nat) (w : World) (h : Tk w w.heap.size Ua um uc U A m c L) (hu6 : um ≤ 100000) (hj : j < L.length) (hf : fndF 0 L pid = (j : Int)) (hn : (L.getD j pw0).1.t ≠ [])
    (hed : ∀ (um m : Nat) (M : List Pw), M.map (·.1) = (lvF (a, U, L.map (·.1)) pid j (L.getD j pw0).1.t).2.2 → um ≤ 100000 → m ≤ 100000 → m = M.length → EdI um m M (kidF M pid) pid) :
    Calls Tryz.prog 35 #[tkV a Ua um uc A m c, .int .i64 pid] w fun e w' => EnR w (klN a U (L.map (·.1)) j pid) 0 e w' := by
  have k1 := (Blk.new w (tkC a Ua um uc A m c) 27).alloc (.cells (tkC 0 none 0 0 none 0 0) 27)
  have k2 := Blk.new_ (w.alloc (.cells (tkC a Ua um uc A m c) 27)) (tkC 0 none 0 0 none 0 0) 27 (n := w.heap.size + 1) (by simp)
  have B0 := ((Below.refl w.heap.size w).alloc (Nat.le_refl _) (.cells (tkC a Ua um uc A m c) 27)).alloc (by simp) (.cells (tkC 0 none 0 0 none 0 0) 27)
  have t0 := h.on B0
  have FN := Lib.hid (find_rf a Ua um uc A m c L pid _ t0.p t0.pl (by have := h.p6; omega))
  rw [hf] at FN
  have HX := Lib.hid h
  have HJ := Lib.hid (And.intro hj (And.intro hf hu6))
  obtain ⟨S, hS⟩ : ∃ S, lvF (a, U, L.map (·.1)) pid j (L.getD j pw0).1.t = S := ⟨_, rfl⟩
  have hE : klN a U (L.map (·.1)) j pid = edEnd (edF S (kidF (ofN S.2.2) pid)) pid := by
    unfold klN
    rw [show ((L.map (·.1)).getD j pn0) = (L.getD j pw0).1 by simp [List.getD, hj], hS]
  obtain ⟨E, hE0⟩ : ∃ E, edEnd (edF S (kidF (ofN S.2.2) pid)) pid = E := ⟨_, rfl⟩
  rw [hS] at hed
  rw [hE, hE0]
  have HED := Lib.hid hed
  have HE := Lib.hid hE0.symm
  have HP := Lib.hid (fun (V : World) (hV : Below w.heap.size w V) => (h.on hV).p.at_ j hj)
  have HT := Lib.hid (fun (V : World) (hV : Below w.heap.size w V) => (h.on hV).p.at' hj)
  have hjm : (j : Int) < (m : Int) := by have := h.pl; omega
  generalize L.getD j pw0 = x at hS hn HP HT
  obtain ⟨xn, hxn⟩ : ∃ y, x.1.t.length = y := ⟨_, rfl⟩
  have hx0 : xn ≠ 0 := fun e => hn (List.eq_nil_of_length_eq_zero (by omega))
  have hx1 : ((xn : Int) == 0) = false := by have : ¬ ((xn : Int) = 0) := by omega
                                             simpa using this
  have hx6 : xn ≤ 1000000 := by have := (HT.out w (Below.refl _ _)).l; omega
  have HXN := Lib.hid (And.intro hxn (And.intro hx0 hS))
  have hj0 : decide ((j : Int) < 0) = false := by simp
  clear h t0 hj hf hed hE hu6 hn hxn hx0 hE0 hS
  unfold tkV at FN ⊢
  go_enter Tryz.func35, Tryz.ntmps35
  go_wp2_with (first
    | (refine wpList_load_row rfl 27 (.tmp 2) rfl w.heap.size rfl 27 (tkC a Ua um uc A m c) (0, 0) _ k1.blk Tryz.underlying27 rfl (tk_inf _ _ _ _ _ _ _) ?_)
    | (refine FN.out.mono ?_
       clear FN
       rintro e w1 ⟨rfl, bb⟩
       have k11 := k1.below bb k1.lt
       have k21 := k2.below bb k2.lt
       have B1 := B0.trans (bb.mono B0.size)
       obtain ⟨b, off, rfl, hb, hc⟩ := HP.out _ B1
       have q2 : w1.cell? ⟨w.heap.size, 2, none⟩ = some (.slice (some ⟨b, off, none⟩) m c) := k11.cell 2
       have q3 : w1.cell? ⟨b, off + j * 3 + 2, none⟩ = some (.slice x.2.1 x.1.t.length x.2.2) := hc 2 _ rfl
       rw [HXN.out.1] at q3
       clear hc bb B0))
  have t1 : Tk w1 w1.heap.size Ua um uc U (some ⟨b, off, none⟩) m c L := HX.out.on B1
  have KS0 : KlS w j pid x.1.t S 0 a Ua um uc U (some ⟨b, off, none⟩) m c L w1 := ⟨k11, k21, t1, .inl rfl, HXN.out.2.2, HJ.out.1, HJ.out.2.1, HJ.out.2.2, B1⟩
  clear q2 q3 t1 k1 k2 k11 k21 hb HX HJ
  obtain ⟨X, hX⟩ : ∃ X, x.2.1 = X := ⟨_, rfl⟩
  obtain ⟨xc, hxc⟩ : ∃ X, x.2.2 = X := ⟨_, rfl⟩
  rw [hX, hxc]
  have HR := Lib.hid (fun (V : World) (hV : Below w.heap.size w V) => (show Ri7 V V.heap.size X x.1.t from by rw [← hX]; exact (HT.out V hV).ri))
  clear hX hxc HT HP hx1 hj0 B1
  go_loopw [32] (fun i wr' => ∃ (k : Nat) (a1 : Int) (U1 : Option Addr) (um1 uc1 : Nat) (l1 : List Int) (A1 : Option Addr) (m1 c1 : Nat) (M : List Pw) (wr : World), wr = wr' ∧ k ≤ xn ∧ i = .int .i64 k ∧ Hid (KlS w j pid x.1.t S k a1 U1 um1 uc1 l1 A1 m1 c1 M wr)) (fun i _ => xn - (intOf i).toNat)
  case atStart => exact ⟨0, a, Ua, um, uc, U, _, m, c, L, _, rfl, Nat.zero_le _, rfl, Lib.hid KS0⟩
  case round =>
    clear KS0
    obtain ⟨k, a1, U1, um1, uc1, l1, A1, m1, c1, M, wr, hwr, hk, rfl, HK⟩ := hrel
    subst hwr
    by_cases hlt : k < xn
    · have hlt' : (k : Int) < (xn : Int) := by omega
      have hkl : k < x.1.t.length := by have := HXN.out.1; omega
      have K := HK.out
      obtain ⟨b5, off5, rfl, hb5, hc5⟩ := HR.out wr K.b k hkl
      have hs := K.s
      rw [List.drop_eq_getElem_cons hkl, lvF, show x.1.t[k] = x.1.t.getD k 0 by simp [List.getD, hkl]] at hs
      generalize x.1.t.getD k 0 = y at hc5 hs
      have HS := Lib.hid hs
      have LV := Lib.hid (leaves_rf a1 U1 um1 uc1 l1 A1 m1 c1 M pid y j wr K.t K.u9 K.j9 K.f)
      have k1 := K.k1
      clear hs K
      unfold tkV at LV
      go_wp2_with (first
        | (refine wpList_load_row rfl 27 (.tmp 2) rfl w.heap.size rfl 27 (tkC a1 U1 um1 uc1 A1 m1 c1) (0, 0) _ k1.blk Tryz.underlying27 rfl (tk_inf _ _ _ _ _ _ _) ?_)
        | (refine LV.out.mono ?_
           clear LV
           rintro e w2 ⟨a2, U2, um2, uc2, l2, A2, m2, c2, M2, rfl, o2, hal, hnm, bb⟩
           have k1 := k1.below bb k1.lt
           have HAL := Lib.hid (And.intro hal (And.intro hnm bb))
           clear hal hnm bb
           unfold tkV)
        | (refine wpList_store_blk rfl 27 (.tmp 2) (.tmp 39) rfl w.heap.size (tkC a1 U1 um1 uc1 A1 m1 c1) (tkC a2 U2 um2 uc2 A2 m2 c2) 27 rfl rfl k1 rfl (tk_inf _ _ _ _ _ _ _) (tk_one _ _ _ _ _ _ _) ?_
           intro w3 k3 n3
           have K3 : KlS w j pid x.1.t S (k + 1) a2 U2 um2 uc2 l2 A2 m2 c2 M2 w3 := by
             have K := HK.out
             have hal := HAL.out.1
             have hnm := HAL.out.2.1
             have bb := HAL.out.2.2
             have o3 := o2.kind n3 k1 (by decide) (by decide)
             have hul := lv_ulen hal
             have hu2 := o2.u.len
             have hu1 := K.t.ul
             have hu9 := K.u9
             have hml := lv_len hnm
             have hm1 := K.t.pl
             have hm2 := o2.p.len
             have hm6 := K.t.p6
             have hcn := lv_cnt K.j9 hnm
             have hn1 := K.t.n
             rw [thr_cnt] at hn1
             have hj9 := K.j9
             refine ⟨k3, (n3.blk7 (K.k2.below bb K.k2.lt) (by omega)), o3.tk (by omega) (by omega) (by omega), .inr ⟨wr.heap.size, K.k2.lt, Nat.le_trans bb.size n3.size, o3⟩, ?_, by omega, ?_, by omega, (K.b.trans (bb.mono K.b.size)).trans (n3.below _ (Nat.le_refl _) (Nat.le_trans K.b.size bb.size))⟩
             · rw [← lv_step K.j9 hal hnm]
               exact HS.out
             · rw [fnd_ids 0 pid (lv_ids K.j9 hnm)]
               exact K.f
           clear n3 k1 k3 o2))
      go_roundw
      case rel => exact ⟨k + 1, a2, U2, um2, uc2, l2, A2, m2, c2, M2, _, rfl, by omega, by go_num, Lib.hid K3⟩
      case measure => simp [intOf]; omega
    · obtain rfl : k = xn := by omega
      have K := HK.out
      have hs := K.s
      rw [List.drop_of_length_le (by have := HXN.out.1; omega), lvF] at hs
      obtain ⟨B, hB1, hB2, o⟩ : ∃ B, w.heap.size + 2 ≤ B ∧ B ≤ wr.heap.size ∧ OwnW wr B U1 um1 uc1 l1 A1 m1 c1 M := by
        rcases K.o with h | h
        · exact absurd h HXN.out.2.1
        · exact h
      have hE := HE.out
      rw [← hs, kid_nm (ofN_nm _)] at hE
      have ED := Lib.hid (ended_rf a1 U1 um1 uc1 l1 A1 m1 c1 M pid B wr o hB2 (HED.out um1 m1 M (by rw [← hs]) K.u9 K.t.p6 K.t.pl) E hE)
      have k1 := K.k1
      have k2 := K.k2
      have B1 := K.b
      clear hs hE K o HE HED
      unfold tkV at ED
      go_wp2_with (first
        | (refine wpList_load_row rfl 27 (.tmp 2) rfl w.heap.size rfl 27 (tkC a1 U1 um1 uc1 A1 m1 c1) (0, 0) _ k1.blk Tryz.underlying27 rfl (tk_inf _ _ _ _ _ _ _) ?_)
        | (refine ED.out.mono ?_
           clear ED
           rintro e w5 ⟨U6, um6, uc6, A6, m6, c6, M6, rfl, o6, hn6, bb, hu6, hm6, hs6⟩
           have k26 := k2.below bb (by omega)
           have B6 := B1.trans (bb.mono (by omega))
           have HB6 := Lib.hid (And.intro hn6 (And.intro hu6 hm6))
           clear bb hs6 hn6 hu6 hm6 k1)
        | (refine wpList_store_blk rfl 27 (.tmp 4) (.tmp 43) rfl (w.heap.size + 1) (tkC 0 none 0 0 none 0 0) (tkC E.1 U6 um6 uc6 A6 m6 c6) 27 rfl rfl k26 rfl (tk_inf _ _ _ _ _ _ _) (tk_one _ _ _ _ _ _ _) ?_
           intro w7 k7 n7))
      refine bodyPost_ret (results_row_tmp rfl _ _ (w.heap.size + 1) 27 (tkC E.1 U6 um6 uc6 A6 m6 c6) (0, 0) _ rfl k7.blk Tryz.underlying27 rfl (tk_inf _ _ _ _ _ _ _) (.int .i64 0) rfl) rfl ?_
      exact ⟨U6, um6, uc6, _, m6, c6, M6, rfl, (o6.kind n7 k26 (by decide) (by decide)).down (by omega), HB6.out.1, HB6.out.2.1, HB6.out.2.2, B6.trans (n7.below _ (by omega) B6.size)⟩
set_option maxRecDepth 100000 in
set_option maxHeartbeats 8000000 in
theorem killN_rf (a : Int) (Ua : Option Addr) (um uc : Nat) (U : List Int) (A : Option Addr) (m c : Nat) (L : List Pw) (pid : Int) (w : World) (h : Tk w w.heap.size Ua um uc U A m c L) (hf : fndF 0 L pid = -1) :
    Calls Tryz.prog 35 #[tkV a Ua um uc A m c, .int .i64 pid] w fun e w' => e = .returned (.tuple #[tkV 0 none 0 0 none 0 0, .int .i64 25]) ∧ Below w.heap.size w w' := by
  have k1 := (Blk.new w (tkC a Ua um uc A m c) 27).alloc (.cells (tkC 0 none 0 0 none 0 0) 27)
  have k2 := Blk.new_ (w.alloc (.cells (tkC a Ua um uc A m c) 27)) (tkC 0 none 0 0 none 0 0) 27 (n := w.heap.size + 1) (by simp)
  have B0 := ((Below.refl w.heap.size w).alloc (Nat.le_refl _) (.cells (tkC a Ua um uc A m c) 27)).alloc (by simp) (.cells (tkC 0 none 0 0 none 0 0) 27)
  have t0 := h.on B0
  have FN := Lib.hid (find_rf a Ua um uc A m c L pid _ t0.p t0.pl (by have := h.p6; omega))
  rw [hf] at FN
  clear h t0 hf
  unfold tkV at FN ⊢
  go_enter Tryz.func35, Tryz.ntmps35
  go_wp2_with (first
    | (refine wpList_load_row rfl 27 (.tmp 2) rfl w.heap.size rfl 27 (tkC a Ua um uc A m c) (0, 0) _ k1.blk Tryz.underlying27 rfl (tk_inf _ _ _ _ _ _ _) ?_)
    | (refine FN.out.mono ?_
       clear FN
       rintro e w1 ⟨rfl, bb⟩
       have k21 := k2.below bb k2.lt
       have B1 := B0.trans (bb.mono B0.size)
       clear bb B0 k1 k2)
    | (refine wpList_store_blk rfl 27 (.tmp 4) (.tmp 24) rfl (w.heap.size + 1) (tkC 0 none 0 0 none 0 0) (tkC 0 none 0 0 none 0 0) 27 rfl rfl k21 rfl (tk_inf _ _ _ _ _ _ _) (tk_one _ _ _ _ _ _ _) ?_
       intro w7 k7 n7))
  refine bodyPost_ret (results_row_tmp rfl _ _ (w.heap.size + 1) 27 (tkC 0 none 0 0 none 0 0) (0, 0) _ rfl k7.blk Tryz.underlying27 rfl (tk_inf _ _ _ _ _ _ _) (.int .i64 25) rfl) rfl ?_
  exact ⟨rfl, B1.trans (n7.below _ (by omega) B1.size)⟩
set_option maxRecDepth 100000 in
set_option maxHeartbeats 8000000 in
theorem killZ_rf (a : Int) (Ua : Option Addr) (um uc : Nat) (U : List Int) (A : Option Addr) (m c : Nat) (L : List Pw) (pid : Int) (j : Nat) (w : World) (h : Tk w w.heap.size Ua um uc U A m c L) (hj : j < L.length) (hf : fndF 0 L pid = (j : Int)) (hn : (L.getD j pw0).1.t = []) :
    Calls Tryz.prog 35 #[tkV a Ua um uc A m c, .int .i64 pid] w fun e w' => e = .returned (.tuple #[tkV 0 none 0 0 none 0 0, .int .i64 25]) ∧ Below w.heap.size w w' := by
  have k1 := (Blk.new w (tkC a Ua um uc A m c) 27).alloc (.cells (tkC 0 none 0 0 none 0 0) 27)
  have k2 := Blk.new_ (w.alloc (.cells (tkC a Ua um uc A m c) 27)) (tkC 0 none 0 0 none 0 0) 27 (n := w.heap.size + 1) (by simp)
  have B0 := ((Below.refl w.heap.size w).alloc (Nat.le_refl _) (.cells (tkC a Ua um uc A m c) 27)).alloc (by simp) (.cells (tkC 0 none 0 0 none 0 0) 27)
  have t0 := h.on B0
  have FN := Lib.hid (find_rf a Ua um uc A m c L pid _ t0.p t0.pl (by have := h.p6; omega))
  rw [hf] at FN
  have HP := Lib.hid (fun (V : World) (hV : Below w.heap.size w V) => (h.on hV).p.at_ j hj)
  have hjm : (j : Int) < (m : Int) := by have := h.pl; omega
  generalize L.getD j pw0 = x at hn HP
  have hj0 : decide ((j : Int) < 0) = false := by simp
  have HN := Lib.hid hn
  clear h t0 hf hj hn
  unfold tkV at FN ⊢
  go_enter Tryz.func35, Tryz.ntmps35
  go_wp2_with (first
    | (refine wpList_load_row rfl 27 (.tmp 2) rfl w.heap.size rfl 27 (tkC a Ua um uc A m c) (0, 0) _ k1.blk Tryz.underlying27 rfl (tk_inf _ _ _ _ _ _ _) ?_)
    | (refine FN.out.mono ?_
       clear FN
       rintro e w1 ⟨rfl, bb⟩
       have k11 := k1.below bb k1.lt
       have k21 := k2.below bb k2.lt
       have B1 := B0.trans (bb.mono B0.size)
       obtain ⟨b, off, rfl, hb, hc⟩ := HP.out _ B1
       have q2 : w1.cell? ⟨w.heap.size, 2, none⟩ = some (.slice (some ⟨b, off, none⟩) m c) := k11.cell 2
       have q3 : w1.cell? ⟨b, off + j * 3 + 2, none⟩ = some (.slice x.2.1 x.1.t.length x.2.2) := hc 2 _ rfl
       rw [HN.out, List.length_nil] at q3
       clear hc bb B0 k1 k2 HP)
    | (refine wpList_store_blk rfl 27 (.tmp 4) (.tmp 24) rfl (w.heap.size + 1) (tkC 0 none 0 0 none 0 0) (tkC 0 none 0 0 none 0 0) 27 rfl rfl k21 rfl (tk_inf _ _ _ _ _ _ _) (tk_one _ _ _ _ _ _ _) ?_
       intro w7 k7 n7))
  refine bodyPost_ret (results_row_tmp rfl _ _ (w.heap.size + 1) 27 (tkC 0 none 0 0 none 0 0) (0, 0) _ rfl k7.blk Tryz.underlying27 rfl (tk_inf _ _ _ _ _ _ _) (.int .i64 25) rfl) rfl ?_
  exact ⟨rfl, B1.trans (n7.below _ (by omega) B1.size)⟩
end Go.Proofs.YtlelhhgggnjndaaGreat
