/-
  The reference's End of nobody; Reap.
-/
import Derived.Test.YtlelhhgggnjndaaGreatQTrK
import Derived.Test.YtlelhhgggnjndaaGreatQTpB
namespace Go.Proofs.YtlelhhgggnjndaaGreat
open Go.RowKit Go.Shelf
set_option linter.unusedVariables false
set_option linter.unusedSimpArgs false
def rpF (P : List Pn) : List Int → Option Int
  | [] => none
  | c :: cs => if ((P.getD (fndF 0 (ofN P) c).toNat pn0).t.length == 0) = true then some c else rpF P cs
def RpR (w : World) (a : Int) (U : List Int) (P : List Pn) (er : Int) : Option Int → Ending → World → Prop
  | none, e, w' => e = .returned (.tuple #[tkV 0 none 0 0 none 0 0, .int .i64 0, .int .i64 er]) ∧ Below w.heap.size w w'
  | some q, e, w' => ∃ Ua um uc A m c M, e = .returned (.tuple #[tkV (rfreeV a U q).1 Ua um uc A m c, .int .i64 q, .int .i64 0]) ∧ OwnW w' w.heap.size Ua um uc (rfreeV a U q).2.1 A m c M ∧ M.map (·.1) = P.filter (fun x => x.i != q) ∧ um ≤ 100000 ∧ m ≤ 100000 ∧ Below w.heap.size w w'
structure RpS (w : World) (a : Int) (Ua : Option Addr) (um uc : Nat) (A : Option Addr) (m c : Nat) (G : Option Addr) (ks : List Int) (V : World) : Prop where
  k1 : Blk V w.heap.size (tkC a Ua um uc A m c) 27
  k2 : Blk V (w.heap.size + 1) (tkC 0 none 0 0 none 0 0) 27
  r : Ri7 V V.heap.size G ks
  b : Below w.heap.size w V
theorem RpS.step {w : World} {a : Int} {Ua : Option Addr} {um uc : Nat} {A : Option Addr} {m c : Nat} {G : Option Addr} {ks : List Int} {V V' : World} (h : RpS w a Ua um uc A m c G ks V) (b : Below V.heap.size V V') : RpS w a Ua um uc A m c G ks V' :=
  ⟨h.k1.below b h.k1.lt, h.k2.below b h.k2.lt, (h.r.below b (Nat.le_refl _)).more b.size, h.b.trans (b.mono h.b.size)⟩
set_option maxRecDepth 100000 in
set_option maxHeartbeats 8000000 in
theorem endN_rf (a : Int) (Ua : Option Addr) (um uc : Nat) (U : List Int) (A : Option Addr) (m c : Nat) (L : List Pw) (tid : Int) (w : World) (h : Tk w w.heap.size Ua um uc U A m c L) (hof : ofR L tid = 0) :
    Calls Tryz.prog 34 #[tkV a Ua um uc A m c, .int .i64 tid] w fun e w' => e = .returned (.tuple #[tkV 0 none 0 0 none 0 0, .int .i64 25]) ∧ Below w.heap.size w w' := by
  have k1 := (Blk.new w (tkC a Ua um uc A m c) 27).alloc (.cells (tkC 0 none 0 0 none 0 0) 27)
  have k2 := Blk.new_ (w.alloc (.cells (tkC a Ua um uc A m c) 27)) (tkC 0 none 0 0 none 0 0) 27 (n := w.heap.size + 1) (by simp)
  have B0 := ((Below.refl w.heap.size w).alloc (Nat.le_refl _) (.cells (tkC a Ua um uc A m c) 27)).alloc (by simp) (.cells (tkC 0 none 0 0 none 0 0) 27)
  have t0 := h.on B0
  have OF := Lib.hid (of_rf a Ua um uc A m c L tid _ t0.p t0.pl (by have := h.p6; omega))
  rw [hof] at OF
  clear h t0 hof
  unfold tkV at OF ⊢
  go_enter Tryz.func34, Tryz.ntmps34
  go_wp2_with (first
    | (refine wpList_load_row rfl 27 (.tmp 2) rfl w.heap.size rfl 27 (tkC a Ua um uc A m c) (0, 0) _ k1.blk Tryz.underlying27 rfl (tk_inf _ _ _ _ _ _ _) ?_)
    | (refine OF.out.mono ?_
       clear OF
       rintro e w1 ⟨rfl, bb⟩
       have k21 := k2.below bb k2.lt
       have B1 := B0.trans (bb.mono B0.size)
       clear bb B0 k1 k2)
    | (refine wpList_store_blk rfl 27 (.tmp 4) (.tmp 12) rfl (w.heap.size + 1) (tkC 0 none 0 0 none 0 0) (tkC 0 none 0 0 none 0 0) 27 rfl rfl k21 rfl (tk_inf _ _ _ _ _ _ _) (tk_one _ _ _ _ _ _ _) ?_
       intro w7 k7 n7))
  refine bodyPost_ret (results_row_tmp rfl _ _ (w.heap.size + 1) 27 (tkC 0 none 0 0 none 0 0) (0, 0) _ rfl k7.blk Tryz.underlying27 rfl (tk_inf _ _ _ _ _ _ _) (.int .i64 25) rfl) rfl ?_
  exact ⟨rfl, B1.trans (n7.below _ (by omega) B1.size)⟩
set_option maxRecDepth 100000 in
set_option maxHeartbeats 8000000 in
theorem reapN_rf (a : Int) (Ua : Option Addr) (um uc : Nat) (U : List Int) (A : Option Addr) (m c : Nat) (L : List Pw) (tid : Int) (w : World) (h : Tk w w.heap.size Ua um uc U A m c L) (hof : ofR L tid = 0) :
    Calls Tryz.prog 36 #[tkV a Ua um uc A m c, .int .i64 tid] w fun e w' => e = .returned (.tuple #[tkV 0 none 0 0 none 0 0, .int .i64 0, .int .i64 25]) ∧ Below w.heap.size w w' := by
  have k1 := (Blk.new w (tkC a Ua um uc A m c) 27).alloc (.cells (tkC 0 none 0 0 none 0 0) 27)
  have k2 := Blk.new_ (w.alloc (.cells (tkC a Ua um uc A m c) 27)) (tkC 0 none 0 0 none 0 0) 27 (n := w.heap.size + 1) (by simp)
  have B0 := ((Below.refl w.heap.size w).alloc (Nat.le_refl _) (.cells (tkC a Ua um uc A m c) 27)).alloc (by simp) (.cells (tkC 0 none 0 0 none 0 0) 27)
  have t0 := h.on B0
  have OF := Lib.hid (of_rf a Ua um uc A m c L tid _ t0.p t0.pl (by have := h.p6; omega))
  rw [hof] at OF
  clear h t0 hof
  unfold tkV at OF ⊢
  go_enter Tryz.func36, Tryz.ntmps36
  go_wp2_with (first
    | (refine wpList_load_row rfl 27 (.tmp 2) rfl w.heap.size rfl 27 (tkC a Ua um uc A m c) (0, 0) _ k1.blk Tryz.underlying27 rfl (tk_inf _ _ _ _ _ _ _) ?_)
    | (refine OF.out.mono ?_
       clear OF
       rintro e w1 ⟨rfl, bb⟩
       have k21 := k2.below bb k2.lt
       have B1 := B0.trans (bb.mono B0.size)
       clear bb B0 k1 k2)
    | (refine wpList_store_blk rfl 27 (.tmp 4) (.tmp 16) rfl (w.heap.size + 1) (tkC 0 none 0 0 none 0 0) (tkC 0 none 0 0 none 0 0) 27 rfl rfl k21 rfl (tk_inf _ _ _ _ _ _ _) (tk_one _ _ _ _ _ _ _) ?_
       intro w7 k7 n7))
  refine bodyPost_ret (results_row_t2 rfl _ _ (w.heap.size + 1) 27 (tkC 0 none 0 0 none 0 0) _ rfl k7 Tryz.underlying27 rfl (tk_inf _ _ _ _ _ _ _) _ _ rfl rfl) rfl ?_
  exact ⟨rfl, B1.trans (n7.below _ (by omega) B1.size)⟩
set_option maxRecDepth 100000 in
set_option maxHeartbeats 8000000 in
theorem reap_rf (a : Int) (Ua : Option Addr) (um uc : Nat) (U : List Int) (A : Option Addr) (m c : Nat) (L : List Pw) (tid pid : Int) (w : World) (h : Tk w w.heap.size Ua um uc U A m c L) (hu6 : um ≤ 100000) (hof : ofR L tid = pid) (hp0 : (pid == 0) = false) :
    Calls Tryz.prog 36 #[tkV a Ua um uc A m c, .int .i64 tid] w fun e w' => RpR w a U (L.map (·.1)) (if (kidF L pid).length = 0 then 27 else 24) (rpF (L.map (·.1)) (kidF L pid)) e w' := by
  have k1 := (Blk.new w (tkC a Ua um uc A m c) 27).alloc (.cells (tkC 0 none 0 0 none 0 0) 27)
  have k2 := Blk.new_ (w.alloc (.cells (tkC a Ua um uc A m c) 27)) (tkC 0 none 0 0 none 0 0) 27 (n := w.heap.size + 1) (by simp)
  have B0 := ((Below.refl w.heap.size w).alloc (Nat.le_refl _) (.cells (tkC a Ua um uc A m c) 27)).alloc (by simp) (.cells (tkC 0 none 0 0 none 0 0) 27)
  have t0 := h.on B0
  have OF := Lib.hid (of_rf a Ua um uc A m c L tid _ t0.p t0.pl (by have := h.p6; omega))
  rw [hof] at OF
  have CH := Lib.hid (fun (V : World) (hV : Below w.heap.size w V) => children_rf a Ua um uc A m c L pid V (h.on hV).p (h.on hV).pl (by have := h.p6; omega))
  have HX := Lib.hid (And.intro h hu6)
  have hkids : ∀ q ∈ kidF L pid, q ∈ idsP L := fun q hq => by
    rw [kid_names] at hq
    have := kid_mem hq
    rw [List.map_map] at this
    exact this
  have HKI := Lib.hid hkids
  have hkl := kidF_len L pid
  have hkl6 : (kidF L pid).length ≤ 1000000 := by have := h.pl; have := h.p6; omega
  clear h t0 hof hu6 hkids hkl
  obtain ⟨ks, hks⟩ : ∃ ks, kidF L pid = ks := ⟨_, rfl⟩
  rw [hks] at CH HKI hkl6 ⊢
  obtain ⟨E, hE⟩ : ∃ E, rpF (L.map (·.1)) ks = E := ⟨_, rfl⟩
  rw [hE]
  have HE := Lib.hid hE
  clear hE hks
  unfold tkV at OF CH
  unfold tkV
  go_enter Tryz.func36, Tryz.ntmps36
  rcases ks with _ | ⟨k0, ks'⟩
  · go_wp2_with (first
      | (refine wpList_load_row rfl 27 (.tmp 2) rfl w.heap.size rfl 27 (tkC a Ua um uc A m c) (0, 0) _ k1.blk Tryz.underlying27 rfl (tk_inf _ _ _ _ _ _ _) ?_)
      | (refine OF.out.mono ?_
         clear OF
         rintro e w1 ⟨rfl, bb⟩
         have k1 := k1.below bb k1.lt
         have k2 := k2.below bb k2.lt
         have B1 := B0.trans (bb.mono B0.size)
         clear bb B0)
      | (refine (CH.out _ B1).mono ?_
         clear CH
         rintro e w2 ⟨G, gm, gc, rfl, z1, bb⟩
         have k21 := k2.below bb k2.lt
         have B2 := B1.trans (bb.mono B1.size)
         obtain rfl : gm = 0 := z1.len
         clear bb z1 B1)
      | (refine wpList_store_blk rfl 27 (.tmp 4) (.tmp 23) rfl (w.heap.size + 1) (tkC 0 none 0 0 none 0 0) (tkC 0 none 0 0 none 0 0) 27 rfl rfl k21 rfl (tk_inf _ _ _ _ _ _ _) (tk_one _ _ _ _ _ _ _) ?_
         intro w7 k7 n7))
    refine bodyPost_ret (results_row_t2 rfl _ _ (w.heap.size + 1) 27 (tkC 0 none 0 0 none 0 0) _ rfl k7 Tryz.underlying27 rfl (tk_inf _ _ _ _ _ _ _) _ _ rfl rfl) rfl ?_
    rw [← HE.out]
    exact ⟨rfl, B2.trans (n7.below _ (by omega) B2.size)⟩
  · obtain ⟨ks, hks⟩ : ∃ ks, k0 :: ks' = ks := ⟨_, rfl⟩
    have hk0 : 0 < ks.length := by rw [← hks]; simp
    rw [hks] at CH HKI hkl6 HE ⊢
    clear hks
    rw [if_neg (by omega)]
    obtain ⟨gm, hgm⟩ : ∃ n, ks.length = n := ⟨_, rfl⟩
    have hg0 : ((gm : Int) == 0) = false := by have : ¬ ((gm : Int) = 0) := by omega
                                               simpa using this
    rw [hgm] at hkl6
    have HGM := Lib.hid hgm
    clear hgm hk0
    go_wp2_with (first
      | (refine wpList_load_row rfl 27 (.tmp 2) rfl w.heap.size rfl 27 (tkC a Ua um uc A m c) (0, 0) _ k1.blk Tryz.underlying27 rfl (tk_inf _ _ _ _ _ _ _) ?_)
      | (refine OF.out.mono ?_
         clear OF
         rintro e w1 ⟨rfl, bb⟩
         have k1 := k1.below bb k1.lt
         have k2 := k2.below bb k2.lt
         have B1 := B0.trans (bb.mono B0.size)
         clear bb B0)
      | (refine (CH.out _ B1).mono ?_
         clear CH
         rintro e w2 ⟨G, gm', gc, rfl, z1, bb⟩
         have J0 : RpS w a Ua um uc A m c G ks w2 := ⟨k1.below bb k1.lt, k2.below bb k2.lt, z1.ri, B1.trans (bb.mono B1.size)⟩
         obtain rfl : gm' = gm := z1.len.trans HGM.out
         clear bb z1 B1 k1 k2))
    have HE := Lib.hid (show rpF (L.map (·.1)) (ks.drop 0) = E by rw [List.drop_zero]; exact HE.out)
    clear hg0
    go_loopw [26] (fun i wr' => ∃ (k : Nat) (wr : World), wr = wr' ∧ k ≤ gm' ∧ i = .int .i64 k ∧ Hid (rpF (L.map (·.1)) (ks.drop k) = E) ∧ Hid (RpS w a Ua um uc A m c G ks wr)) (fun i _ => gm' - (intOf i).toNat)
    case atStart => exact ⟨0, _, rfl, Nat.zero_le _, rfl, HE, Lib.hid J0⟩
    case round =>
      clear J0 HE
      obtain ⟨k, wr, hwr, hk, rfl, HE, HJ⟩ := hrel
      subst hwr
      have J := HJ.out
      by_cases hlt : k < gm'
      · have hlt' : (k : Int) < (gm' : Int) := by omega
        have hkl : k < ks.length := by have := HGM.out; omega
        obtain ⟨b5, off5, rfl, hb5, hc5⟩ := J.r k hkl
        have hE := HE.out
        have hmem : ks.getD k 0 ∈ ks := by rw [show ks.getD k 0 = ks[k] by simp [List.getD, hkl]]; exact List.getElem_mem _
        rw [List.drop_eq_getElem_cons hkl, rpF, show ks[k] = ks.getD k 0 by simp [List.getD, hkl]] at hE
        generalize ks.getD k 0 = y at hc5 hE hmem
        obtain ⟨j, hjl, hfj, hji⟩ := fnd_in (HKI.out y hmem)
        rw [fnd_nm 0 y (ofN_nm (L.map (·.1))), hfj, Int.toNat_natCast, show (L.map (·.1)).getD j pn0 = (L.getD j pw0).1 by simp [List.getD, hjl]] at hE
        have hx := HX.out.1
        obtain ⟨b, off, rfl, hb, _⟩ := (hx.on J.b).p.at_ j hjl
        have FN := Lib.hid (fun (V : World) (hV : Below w.heap.size w V) => find_rf a Ua um uc (some ⟨b, off, none⟩) m c L y V (hx.on hV).p hx.pl (by have := hx.p6; omega))
        rw [hfj] at FN
        obtain ⟨xs2, hx2⟩ : ∃ y, (L.getD j pw0).2.1 = y := ⟨_, rfl⟩
        obtain ⟨xs3, hx3⟩ : ∃ y, (L.getD j pw0).2.2 = y := ⟨_, rfl⟩
        obtain ⟨xn, hxn⟩ : ∃ y, (L.getD j pw0).1.t.length = y := ⟨_, rfl⟩
        have HTH := Lib.hid (fun (V : World) (hV : Below w.heap.size w V) => (show V.cell? ⟨b, off + j * 3 + 2, none⟩ = some (.slice xs2 xn xs3) from by
          obtain ⟨b8, off8, he8, _, hc8⟩ := (hx.on hV).p.at_ j hjl
          cases he8
          rw [← hx2, ← hx3, ← hxn]
          exact hc8 2 _ rfl))
        rw [hxn] at hE
        have hjm : (j : Int) < (m : Int) := by have := hx.pl; omega
        unfold tkV at FN
        clear hx hxn hx2 hx3 hfj hji hjl hmem hb hb5 HE HJ
        obtain ⟨xb, hxb⟩ : ∃ b, (xn == 0) = b := ⟨_, rfl⟩
        rw [hxb] at hE
        cases xb
        · have HE := Lib.hid (show rpF (L.map (·.1)) (ks.drop (k + 1)) = E from by rw [← hE]; rfl)
          have HXN0 := Lib.hid (show xn ≠ 0 from by simpa using hxb)
          clear hE hxb
          go_wp2_with fail
          have J := J.step (Below.refl _ _).drew
          refine region_cutP ?_
          refine wp_region_held_drew (S := RpS w a Ua um uc (some ⟨b, off, none⟩) m c (some ⟨b5, off5, none⟩) ks) (by kernel_rfl) J (fun _ => ?_)
          refine wpAnyH_take (i := 0) (v := .pointer (some ⟨w.heap.size, 2, none⟩)) rfl (by kernel_rfl) (by kernel_rfl) (by kernel_rfl) (fun _ _ _ h => nomatch h.1) (.inl ⟨by rfl, fun V hV => by go_simp⟩) J ?_
          try simp only [Act.put, qA, qB, qC, qD, qE, qF]
          refine wpAnyH_take (i := 1) (v := .slice (some ⟨b, off, none⟩) m c) rfl (by kernel_rfl) (by kernel_rfl) (by kernel_rfl) (fun _ _ _ h => nomatch h.1) (.inl ⟨by rfl, fun V hV => by have c2 : V.cell? ⟨w.heap.size, 2, none⟩ = some (.slice (some ⟨b, off, none⟩) m c) := hV.k1.cell 2; go_simp⟩) J ?_
          try simp only [Act.put, qA, qB, qC, qD, qE, qF]
          refine wpAnyH_take (i := 2) (v := .agg (tkC a Ua um uc (some ⟨b, off, none⟩) m c)) rfl (by kernel_rfl) (by kernel_rfl) (by kernel_rfl) (fun _ _ _ h => nomatch h.1) (yieldsIf_blk (by rfl) 27 (.tmp 2) rfl w.heap.size rfl (tkC a Ua um uc (some ⟨b, off, none⟩) m c) 27 _ (fun _ h => h.k1) Tryz.underlying27 rfl (tk_inf _ _ _ _ _ _ _)) J ?_
          try simp only [Act.put, qA, qB, qC, qD, qE, qF]
          refine wpAnyH_take (i := 3) (v := .int .i64 y) rfl (by kernel_rfl) (by kernel_rfl) (by kernel_rfl) (fun _ _ _ h => nomatch h.1) (.inl ⟨by rfl, fun V hV => by go_simp⟩) J ?_
          try simp only [Act.put, qA, qB, qC, qD, qE, qF]
          refine wpAnyH_ready (rs := [4]) (by kernel_rfl) (by simp) ?_
          refine AllReadyH.cons rfl (fun K hK => ?_) AllReadyH.nil
          try simp only [Act.put, qA, qB, qC, qD, qE, qF]
          go_simp
          refine (FN.out _ J.b).mono ?_
          rintro e w6 ⟨rfl, bb⟩
          have J := J.step bb
          clear bb FN
          refine hK.out _ _ J (fun _ => ?_)
          clear hK K
          try simp only [Act.put, qA, qB, qC, qD, qE, qF]
          refine wpAnyH_take (i := 5) (v := .pointer (some ⟨b, off + j * 3, none⟩)) rfl (by kernel_rfl) (by kernel_rfl) (by kernel_rfl) (fun _ _ _ h => nomatch h.1) (.inl ⟨by rfl, fun V hV => by go_simp⟩) J ?_
          try simp only [Act.put, qA, qB, qC, qD, qE, qF]
          refine wpAnyH_take (i := 6) (v := .pointer (some ⟨b, off + j * 3 + 2, none⟩)) rfl (by kernel_rfl) (by kernel_rfl) (by kernel_rfl) (fun _ _ _ h => nomatch h.1) (.inl ⟨by rfl, fun V hV => by go_simp⟩) J ?_
          try simp only [Act.put, qA, qB, qC, qD, qE, qF]
          refine wpAnyH_take (i := 7) (v := .slice xs2 xn xs3) rfl (by kernel_rfl) (by kernel_rfl) (by kernel_rfl) (fun _ _ _ h => nomatch h.1) (.inl ⟨by rfl, fun V hV => by have c3 := HTH.out V hV.b; go_simp⟩) J ?_
          try simp only [Act.put, qA, qB, qC, qD, qE, qF]
          refine wpAnyH_take (i := 8) (v := .int .i64 xn) rfl (by kernel_rfl) (by kernel_rfl) (by kernel_rfl) (fun _ _ _ h => nomatch h.1) (.inl ⟨by rfl, fun V hV => by go_simp⟩) J ?_
          try simp only [Act.put, qA, qB, qC, qD, qE, qF]
          refine wpAnyH_take (i := 9) (v := .bool false) rfl (by kernel_rfl) (by kernel_rfl) (by kernel_rfl) (fun _ _ _ h => nomatch h.1) (.inl ⟨by rfl, fun V hV => by have hq := HXN0.out; go_simp⟩) J ?_
          try simp only [Act.put, qA, qB, qC, qD, qE, qF]
          refine wpAnyH_done (by kernel_rfl) ?_ _
          refine ⟨rfl, ?_⟩
          go_wp2_with fail
          go_roundw
          case rel => exact ⟨k + 1, _, rfl, by omega, by go_num, HE, Lib.hid J⟩
          case measure => simp [intOf]; omega
        · have HE := Lib.hid (show some y = E from by rw [← hE]; rfl)
          obtain rfl : xn = 0 := by simpa using hxb
          have HXN0 := Lib.hid (show (0 : Nat) = 0 from rfl)
          clear hE hxb
          go_wp2_with fail
          have J := J.step (Below.refl _ _).drew
          refine region_cutP ?_
          refine wp_region_held_drew (S := RpS w a Ua um uc (some ⟨b, off, none⟩) m c (some ⟨b5, off5, none⟩) ks) (by kernel_rfl) J (fun _ => ?_)
          refine wpAnyH_take (i := 0) (v := .pointer (some ⟨w.heap.size, 2, none⟩)) rfl (by kernel_rfl) (by kernel_rfl) (by kernel_rfl) (fun _ _ _ h => nomatch h.1) (.inl ⟨by rfl, fun V hV => by go_simp⟩) J ?_
          try simp only [Act.put, qA, qB, qC, qD, qE, qF]
          refine wpAnyH_take (i := 1) (v := .slice (some ⟨b, off, none⟩) m c) rfl (by kernel_rfl) (by kernel_rfl) (by kernel_rfl) (fun _ _ _ h => nomatch h.1) (.inl ⟨by rfl, fun V hV => by have c2 : V.cell? ⟨w.heap.size, 2, none⟩ = some (.slice (some ⟨b, off, none⟩) m c) := hV.k1.cell 2; go_simp⟩) J ?_
          try simp only [Act.put, qA, qB, qC, qD, qE, qF]
          refine wpAnyH_take (i := 2) (v := .agg (tkC a Ua um uc (some ⟨b, off, none⟩) m c)) rfl (by kernel_rfl) (by kernel_rfl) (by kernel_rfl) (fun _ _ _ h => nomatch h.1) (yieldsIf_blk (by rfl) 27 (.tmp 2) rfl w.heap.size rfl (tkC a Ua um uc (some ⟨b, off, none⟩) m c) 27 _ (fun _ h => h.k1) Tryz.underlying27 rfl (tk_inf _ _ _ _ _ _ _)) J ?_
          try simp only [Act.put, qA, qB, qC, qD, qE, qF]
          refine wpAnyH_take (i := 3) (v := .int .i64 y) rfl (by kernel_rfl) (by kernel_rfl) (by kernel_rfl) (fun _ _ _ h => nomatch h.1) (.inl ⟨by rfl, fun V hV => by go_simp⟩) J ?_
          try simp only [Act.put, qA, qB, qC, qD, qE, qF]
          refine wpAnyH_ready (rs := [4]) (by kernel_rfl) (by simp) ?_
          refine AllReadyH.cons rfl (fun K hK => ?_) AllReadyH.nil
          try simp only [Act.put, qA, qB, qC, qD, qE, qF]
          go_simp
          refine (FN.out _ J.b).mono ?_
          rintro e w6 ⟨rfl, bb⟩
          have J := J.step bb
          clear bb FN
          refine hK.out _ _ J (fun _ => ?_)
          clear hK K
          try simp only [Act.put, qA, qB, qC, qD, qE, qF]
          refine wpAnyH_take (i := 5) (v := .pointer (some ⟨b, off + j * 3, none⟩)) rfl (by kernel_rfl) (by kernel_rfl) (by kernel_rfl) (fun _ _ _ h => nomatch h.1) (.inl ⟨by rfl, fun V hV => by go_simp⟩) J ?_
          try simp only [Act.put, qA, qB, qC, qD, qE, qF]
          refine wpAnyH_take (i := 6) (v := .pointer (some ⟨b, off + j * 3 + 2, none⟩)) rfl (by kernel_rfl) (by kernel_rfl) (by kernel_rfl) (fun _ _ _ h => nomatch h.1) (.inl ⟨by rfl, fun V hV => by go_simp⟩) J ?_
          try simp only [Act.put, qA, qB, qC, qD, qE, qF]
          refine wpAnyH_take (i := 7) (v := .slice xs2 0 xs3) rfl (by kernel_rfl) (by kernel_rfl) (by kernel_rfl) (fun _ _ _ h => nomatch h.1) (.inl ⟨by rfl, fun V hV => by have c3 := HTH.out V hV.b; go_simp⟩) J ?_
          try simp only [Act.put, qA, qB, qC, qD, qE, qF]
          refine wpAnyH_take (i := 8) (v := .int .i64 0) rfl (by kernel_rfl) (by kernel_rfl) (by kernel_rfl) (fun _ _ _ h => nomatch h.1) (.inl ⟨by rfl, fun V hV => by go_simp⟩) J ?_
          try simp only [Act.put, qA, qB, qC, qD, qE, qF]
          refine wpAnyH_take (i := 9) (v := .bool true) rfl (by kernel_rfl) (by kernel_rfl) (by kernel_rfl) (fun _ _ _ h => nomatch h.1) (.inl ⟨by rfl, fun V hV => by have hq := HXN0.out; go_simp⟩) J ?_
          try simp only [Act.put, qA, qB, qC, qD, qE, qF]
          refine wpAnyH_done (by kernel_rfl) ?_ _
          refine ⟨rfl, ?_⟩
          have CP := Lib.hid (fun (V : World) (hV : Below w.heap.size w V) => rcopy_tk a Ua um uc U (some ⟨b, off, none⟩) m c L V (HX.out.1.on hV))
          unfold tkV at CP
          go_wp2_with (first
            | (refine wpList_load_row rfl 27 (.tmp 2) rfl w.heap.size rfl 27 (tkC a Ua um uc (some ⟨b, off, none⟩) m c) (0, 0) _ J.k1.blk Tryz.underlying27 rfl (tk_inf _ _ _ _ _ _ _) ?_)
            | (refine (CP.out _ J.b).mono ?_
               clear CP
               rintro e w7 ⟨U3, um3, uc3, A3, m3, c3, M, rfl, o3, hnm, bb⟩
               have hml : M.length = L.length := by have h1 := congrArg List.length hnm; simpa using h1
               have hxq : ∀ x ∈ M, x.1.t.length ≤ 1000000 := fun x hx => by
                 have h1 : x.1 ∈ L.map (·.1) := by rw [← hnm]; exact List.mem_map.2 ⟨x, hx, rfl⟩
                 obtain ⟨z, hz, e⟩ := List.mem_map.1 h1
                 rw [← e]
                 exact (HX.out.1.p.tr z hz).l
               have GN := Lib.hid (gone_rf a U3 um3 uc3 U A3 m3 c3 M y _ w7 o3.w bb.size (by have h1 := o3.u.len; have h2 := HX.out.1.ul; have h3 := HX.out.2; omega) (by have h1 := o3.p.len; have h2 := HX.out.1.pl; have h3 := HX.out.1.p6; omega) hxq)
               have J7 := J.step bb
               have hs7 := J.b.size
               have HNM := Lib.hid hnm
               unfold tkV at GN
               clear hml hxq bb o3 hnm J
               unfold tkV)
            | (refine GN.out.mono ?_
               clear GN
               rintro e w8 ⟨a6, U6, um6, uc6, l6, A6, m6, c6, M6, er, rfl, hfr, o6, hn6, bb⟩
               have J8 := J7.step bb
               have HFR := Lib.hid (And.intro hfr hn6)
               clear hfr hn6 bb J7
               unfold tkV)
            | (refine wpList_store_blk rfl 27 (.tmp 4) (.tmp 43) rfl (w.heap.size + 1) (tkC 0 none 0 0 none 0 0) (tkC a6 U6 um6 uc6 A6 m6 c6) 27 rfl rfl J8.k2 rfl (tk_inf _ _ _ _ _ _ _) (tk_one _ _ _ _ _ _ _) ?_
               intro w9 k9 n9))
          refine bodyPost_ret (results_row_t2 rfl _ _ (w.heap.size + 1) 27 (tkC a6 U6 um6 uc6 A6 m6 c6) _ rfl k9 Tryz.underlying27 rfl (tk_inf _ _ _ _ _ _ _) _ _ rfl rfl) rfl ?_
          rw [← HE.out]
          exact ⟨U6, um6, uc6, A6, m6, c6, M6, by rw [HFR.out.1]; rfl, by rw [HFR.out.1]; exact (o6.kind n9 J8.k2 (by decide) (by decide)).down hs7, by rw [HFR.out.2, HNM.out], by have h1 := o6.u.len; have h2 := rfree_len a U y; rw [HFR.out.1] at h2; have h3 := HX.out.1.ul; have h4 := HX.out.2; simp only at h2; omega, by
            have h1 := o6.p.len
            have h2 := congrArg List.length HFR.out.2
            have h3 := congrArg List.length HNM.out
            have h4 := List.length_filter_le (fun x : Pn => x.i != y) (M.map (·.1))
            have h5 := HX.out.1.pl
            have h6 := HX.out.1.p6
            simp only [List.length_map] at h2 h3 h4
            omega, J8.b.trans (n9.below _ (by omega) J8.b.size)⟩
      · obtain rfl : k = gm' := by omega
        have hE := HE.out
        rw [List.drop_of_length_le (by have := HGM.out; omega), rpF] at hE
        have HE := Lib.hid hE
        clear hE HJ
        go_wp2_with (first
          | (refine wpList_store_blk rfl 27 (.tmp 4) (.tmp 46) rfl (w.heap.size + 1) (tkC 0 none 0 0 none 0 0) (tkC 0 none 0 0 none 0 0) 27 rfl rfl J.k2 rfl (tk_inf _ _ _ _ _ _ _) (tk_one _ _ _ _ _ _ _) ?_
             intro w7 k7 n7))
        refine bodyPost_ret (results_row_t2 rfl _ _ (w.heap.size + 1) 27 (tkC 0 none 0 0 none 0 0) _ rfl k7 Tryz.underlying27 rfl (tk_inf _ _ _ _ _ _ _) _ _ rfl rfl) rfl ?_
        rw [← HE.out]
        exact ⟨rfl, J.b.trans (n7.below _ (by omega) J.b.size)⟩
end Go.Proofs.YtlelhhgggnjndaaGreat
