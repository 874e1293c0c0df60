/-
  task.Fork's change.
-/
import Derived.Test.YtlelhhgggnjndaaGreatQShift
import Derived.Test.YtlelhhgggnjndaaGreatQTpI
import Derived.Test.YtlelhhgggnjndaaGreatQTkB
namespace Go.Proofs.YtlelhhgggnjndaaGreat
open Go.RowKit Go.Shelf
set_option linter.unusedVariables false
set_option linter.unusedSimpArgs false
def ApT (x y : Pw) : Prop := ∀ g, ownT x = some g → ownT y ≠ some g
theorem apT_symm {x y : Pw} (h : ApT x y) : ApT y x := fun g h1 h2 => h g h2 h1
theorem qd_iff {L : List Pw} : (∀ i j, i < L.length → j < L.length → i ≠ j → ∀ g, ownT (L.getD i pw0) = some g → ownT (L.getD j pw0) ≠ some g) ↔ L.Pairwise ApT := by
  rw [List.pairwise_iff_getElem]
  constructor
  · intro h i j hi hj hij g
    have := h i j hi hj (by omega) g
    rwa [show L.getD i pw0 = L[i] by simp [List.getD, hi], show L.getD j pw0 = L[j] by simp [List.getD, hj]] at this
  · intro h i j hi hj hij g
    rw [show L.getD i pw0 = L[i] by simp [List.getD, hi], show L.getD j pw0 = L[j] by simp [List.getD, hj]]
    rcases Nat.lt_or_ge i j with h1 | h1
    · exact h i j hi hj h1 g
    · exact apT_symm (h j i hj hi (by omega)) g
theorem mem_insP7 {k : Nat} {x z : Pw} {L : List Pw} : z ∈ insL k x L ↔ z = x ∨ z ∈ L := by
  have h : z ∈ L ↔ z ∈ L.take k ∨ z ∈ L.drop k := by rw [← List.mem_append, List.take_append_drop]
  unfold insL
  rw [List.mem_append, List.mem_cons, h]
  constructor
  · rintro (h | h | h)
    · exact .inr (.inl h)
    · exact .inl h
    · exact .inr (.inr h)
  · rintro (h | h | h)
    · exact .inr (.inl h)
    · exact .inl h
    · exact .inr (.inr h)
theorem ap_ins {k : Nat} {x : Pw} {L : List Pw} (h : L.Pairwise ApT) (hx : ∀ y ∈ L, ApT x y) : (insL k x L).Pairwise ApT := by
  unfold insL
  rw [List.pairwise_middle apT_symm, List.take_append_drop, List.pairwise_cons]
  exact ⟨hx, h⟩
theorem cnt_ins {k : Nat} {x : Pn} {P : List Pn} : cntT (insL k x P) = cntT P + x.t.length := by
  have h : cntT P = cntT (P.take k) + cntT (P.drop k) := by
    conv => lhs; rw [← List.take_append_drop k P]
    simp only [cntT, List.map_append, List.sum_append]
  rw [h]
  unfold insL cntT
  simp only [List.map_append, List.map_cons, List.sum_append, List.sum_cons]
  omega
theorem ins_names {k : Nat} {x : Pw} {L : List Pw} : (insL k x L).map (·.1) = insL k x.1 (L.map (·.1)) := by
  unfold insL
  rw [List.map_append, List.map_cons, List.map_take, List.map_drop]
theorem idsP_names (L : List Pw) : idsP L = (L.map (·.1)).map (·.i) := by unfold idsP; rw [List.map_map]; rfl
def forkR (a : Int) (U : List Int) (P : List Pn) (p : Nat) : TkA :=
  if P.length = 6 then noT 24 else if cntT P = 8 then noT 24 else if (takeV a U).2.2.2 = 0 then ⟨(takeV a U).1, (takeV a U).2.1, insL (lessP (P.map (·.i)) (takeV a U).2.2.1) ⟨(takeV a U).2.2.1, (P.getD p pn0).i, [(takeV a U).2.2.1]⟩ P, (takeV a U).2.2.1, 0⟩ else noT (takeV a U).2.2.2
structure FkM (V W : World) (B g : Nat) (a : Int) (Ua : Option Addr) (um uc : Nat) (U : List Int) (A : Option Addr) (m c : Nat) (L : List Pw) : Prop where
  kg : Blk W g (tkC a Ua um uc A m c) 27
  own : OwnT W B Ua um uc U A m c L
  b : Below B V W
theorem FkM.step {V W W' : World} {B g : Nat} {a : Int} {Ua : Option Addr} {um uc : Nat} {U : List Int} {A : Option Addr} {m c : Nat} {L : List Pw} (h : FkM V W B g a Ua um uc U A m c L) (b : Below W.heap.size W W') (hB : B ≤ W.heap.size) : FkM V W' B g a Ua um uc U A m c L := ⟨h.kg.below b h.kg.lt, h.own.below b (Nat.le_refl _), h.b.trans (b.mono hB)⟩
set_option maxRecDepth 100000 in
set_option maxHeartbeats 8000000 in
theorem fork1_tk (a : Int) (U : List Int) (P : List Pn) (p : Nat) (hp : p < P.length) (hpu : (P.map (·.i)).Pairwise (· < ·)) (hc : cntT P ≤ 8) (hP6 : P.length ≤ 6) (hU : (takeV a U).2.2.2 = 0 → (takeV a U).2.1.length ≤ 1000000) : DoT 59 #[] (fun _ _ => True) a U P p (forkR a U P p) := by
  intro V B g Ua um uc A m c L _ hLP own tk kg hBg
  have hTK := fun (W : World) (bW : Below V.heap.size V W) => (let t := tk.on bW; take_tk g a Ua um uc U A m c L W (kg.below bW kg.lt) t.u t.ul t.u6 t.p t.pl (by have := tk.p6; omega) (by have := tk.n; omega))
  rw [thr_cnt, hLP] at hTK
  have hpl : p < L.length := by rw [← hLP] at hp; simpa using hp
  have hml : m = P.length := by rw [own.p.len, ← hLP, List.length_map]
  have hgV := kg.lt
  have hBV : B ≤ V.heap.size := Nat.le_trans hBg (Nat.le_of_lt hgV)
  have q2 : V.cell? ⟨g, 2, none⟩ = some (.slice A m c) := kg.cell 2
  unfold forkR
  by_cases h6 : P.length = 6
  · rw [if_pos h6]
    have hm6 : ((m : Int) == 6) = true := by rw [hml, h6]; rfl
    clear hTK hU
    go_enter Tryz.func59, Tryz.ntmps59
    go_wp2_with fail
    refine bodyPost_ret (results_tmp2 rfl _ _ _) rfl ?_
    exact ⟨rfl, Below.refl _ _, fun h => absurd h (by show ¬ (24 : Int) = 0; decide)⟩
  · rw [if_neg h6]
    have hm6 : ((m : Int) == 6) = false := by rw [hml]; simp; omega
    by_cases h8 : cntT P = 8
    · rw [if_pos h8]
      have TK := Lib.hid ((hTK V (Below.refl _ _)).mono (fun e w' h => h.1 h8))
      clear hTK h8 hU h6
      go_enter Tryz.func59, Tryz.ntmps59
      go_wp2_with (first
        | (refine TK.out.mono ?_
           clear TK
           rintro e w1 ⟨rfl, bb⟩))
      refine bodyPost_ret (results_tmp2 rfl _ _ _) rfl ?_
      exact ⟨rfl, bb.mono hBV, fun h => absurd h (by show ¬ (24 : Int) = 0; decide)⟩
    · rw [if_neg h8]
      have TK := Lib.hid ((hTK V (Below.refl _ _)).mono (fun e w' h => h.2 h8))
      obtain ⟨⟨ta, tl, ti, te⟩, htv⟩ : ∃ t, takeV a U = t := ⟨_, rfl⟩
      rw [htv] at TK hU ⊢
      have HTL := Lib.hid hU
      clear hTK hU htv
      simp only at HTL ⊢
      by_cases he : te = 0
      · subst he
        rw [if_pos rfl]
        have hnm : (P.getD p pn0) = (L.getD p pw0).1 := by rw [← hLP]; exact getD_name p
        rw [hnm]
        obtain ⟨gP, hA, hgP, hgPl⟩ := own.p.at0 (by omega)
        subst hA
        obtain ⟨x, hx⟩ : ∃ x, L.getD p pw0 = x := ⟨_, rfl⟩
        rw [hx]
        have hm : (p : Int) < (m : Int) := by have := own.p.len; omega
        have hids : idsP L = P.map (·.i) := by rw [idsP_names, hLP]
        rw [← hids] at hpu ⊢
        have HOWN := Lib.hid own
        have HTK := Lib.hid tk
        have HX := Lib.hid hx
        have HPL := Lib.hid (And.intro hpl (And.intro hLP hml))
        have H8 := Lib.hid (And.intro h8 h6)
        have HPU := Lib.hid hpu
        clear own tk hx hpl hLP h8 hpu hnm hp hml hids h6
        go_enter Tryz.func59, Tryz.ntmps59
        go_wp2_with (first
          | (refine TK.out.mono ?_
             clear TK q2
             rintro e w1 ⟨Ua1, um1, uc1, a1, l1, id1, er1, rfl, kg1, zu1, hv, nb⟩
             obtain ⟨rfl, rfl, rfl, rfl⟩ : ta = a1 ∧ tl = l1 ∧ ti = id1 ∧ 0 = er1 := by simpa using hv
             have own1 := HOWN.out.kind nb kg (by decide) (by decide)
             have hzu : ∀ y ∈ L, ∀ g', ownT y = some g' → (Value.slice Ua1 um1 uc1).ownBlock ≠ some g' := fun y hy g' h1 h2 => by
               have := (zo_at (HOWN.out.q y hy) h1).2
               have := (zo_at zu1 h2).1
               omega
             have HM1 := Lib.hid (show FkM V w1 B g ta Ua1 um1 uc1 tl (some ⟨gP, 0, none⟩) m c L from ⟨kg1, ⟨zu1.down hBV, own1.p, own1.q, own1.qd, hzu⟩, nb.below _ hBg hBV⟩)
             have HZU := Lib.hid zu1.len
             have hs1 := nb.size
             have HPC := Lib.hid (place_tk ta Ua1 um1 uc1 (some ⟨gP, 0, none⟩) m c L ti w1 ⟨fun k hk => HM1.out.own.p.rs k hk, fun y hy => zo_tr (HM1.out.own.q y hy) (by have := HTK.out.p.tr y hy; exact this.l)⟩ HM1.out.own.p.len (by have := HTK.out.p6; omega) HPU.out)
             unfold tkV at HPC
             clear hv nb own1 zu1 kg hzu)
          | (refine wpList_load_row rfl 27 (.tmp 26) rfl g rfl 27 (tkC ta Ua1 um1 uc1 (some ⟨gP, 0, none⟩) m c) (0, 0) _ kg1.blk Tryz.underlying27 rfl (tk_inf _ _ _ _ _ _ _) ?_)
          | (refine HPC.out.mono ?_
             clear HPC
             rintro e w2 ⟨rfl, bb⟩
             have HM2 := Lib.hid (HM1.out.step bb (Nat.le_trans hBV hs1))
             have hs2 := Nat.le_trans hs1 bb.size
             clear bb kg1 HM1 hs1))
        try simp only [Act.put]
        refine region_cutP ?_
        have hle : lessP (idsP L) ti ≤ m := by have h1 := lessP_le (idsP L) ti; rw [show (idsP L).length = L.length by simp [idsP], ← HTK.out.pl] at h1; exact h1
        obtain ⟨pl, hpl2⟩ : ∃ q, lessP (idsP L) ti = q := ⟨_, rfl⟩
        rw [hpl2] at hle ⊢
        have HPE := Lib.hid hpl2
        clear hpl2
        have hplm : (pl : Int) ≤ (m : Int) := by omega
        have hBs : B ≤ w2.heap.size := Nat.le_trans hBV hs2
        have hm7 : m + 1 ≤ 100000 := by have := HPL.out.2.2; omega
        have J : True := trivial
        have F : FkM V w2.drew B g ta Ua1 um1 uc1 tl (some ⟨gP, 0, none⟩) m c L := HM2.out.step (Below.refl _ _).drew hBs
        refine wp_region_held_drew (S := fun _ => True) (by kernel_rfl) J (fun _ => ?_)
        have hsW : w2.heap.size ≤ w2.drew.heap.size := Nat.le_refl _
        generalize w2.drew = W0 at F hsW ⊢
        have hBW : B ≤ W0.heap.size := Nat.le_trans hBs hsW
        clear HM2
        refine wpAnyH_take (i := 0) (v := .pointer (some ⟨g, 0, none⟩)) rfl (by kernel_rfl) (by kernel_rfl) (by kernel_rfl) (fun _ _ _ h => nomatch h.1) (.inl ⟨by rfl, fun V hV => by go_simp⟩) J ?_
        try simp only [Act.put, qA, qB, qC, qD, qE, qF]
        refine wpAnyH_take (i := 1) (v := .pointer (some ⟨g, 0, none⟩)) rfl (by kernel_rfl) (by kernel_rfl) (by kernel_rfl) (fun _ _ _ h => nomatch h.1) (.inl ⟨by rfl, fun V hV => by go_simp⟩) J ?_
        try simp only [Act.put, qA, qB, qC, qD, qE, qF]
        refine wpAnyH_take (i := 5) (v := .int .i64 pl) rfl (by kernel_rfl) (by kernel_rfl) (by kernel_rfl) (fun _ _ _ h => nomatch h.1) (.inl ⟨by rfl, fun V hV => by go_simp⟩) J ?_
        try simp only [Act.put, qA, qB, qC, qD, qE, qF]
        refine wpAnyH_take (i := 6) (v := .int .i64 ti) rfl (by kernel_rfl) (by kernel_rfl) (by kernel_rfl) (fun _ _ _ h => nomatch h.1) (.inl ⟨by rfl, fun V hV => by go_simp⟩) J ?_
        try simp only [Act.put, qA, qB, qC, qD, qE, qF]
        refine wpAnyH_take (i := 7) (v := .pointer (some ⟨g, 0, none⟩)) rfl (by kernel_rfl) (by kernel_rfl) (by kernel_rfl) (fun _ _ _ h => nomatch h.1) (.inl ⟨by rfl, fun V hV => by go_simp⟩) J ?_
        try simp only [Act.put, qA, qB, qC, qD, qE, qF]
        refine wpAnyH_take (i := 11) (v := .int .i64 p) rfl (by kernel_rfl) (by kernel_rfl) (by kernel_rfl) (fun _ _ _ h => nomatch h.1) (.inl ⟨by rfl, fun V hV => by go_simp⟩) J ?_
        try simp only [Act.put, qA, qB, qC, qD, qE, qF]
        refine wpAnyH_take (i := 15) (v := .int .i64 ti) rfl (by kernel_rfl) (by kernel_rfl) (by kernel_rfl) (fun _ _ _ h => nomatch h.1) (.inl ⟨by rfl, fun V hV => by go_simp⟩) J ?_
        try simp only [Act.put, qA, qB, qC, qD, qE, qF]
        refine wpAnyH_take (i := 2) (v := .pointer (some ⟨g, 0, none⟩)) rfl (by kernel_rfl) (by kernel_rfl) (by kernel_rfl) (fun _ _ _ h => nomatch h.1) (.inl ⟨by rfl, fun V hV => by go_simp⟩) J ?_
        try simp only [Act.put, qA, qB, qC, qD, qE, qF]
        refine wpAnyH_take (i := 8) (v := .pointer (some ⟨g, 0, none⟩)) rfl (by kernel_rfl) (by kernel_rfl) (by kernel_rfl) (fun _ _ _ h => nomatch h.1) (.inl ⟨by rfl, fun V hV => by go_simp⟩) J ?_
        try simp only [Act.put, qA, qB, qC, qD, qE, qF]
        refine wpAnyH_take (i := 3) (v := .pointer (some ⟨g, 2, none⟩)) rfl (by kernel_rfl) (by kernel_rfl) (by kernel_rfl) (fun _ _ _ h => nomatch h.1) (.inl ⟨by rfl, fun V hV => by go_simp⟩) J ?_
        try simp only [Act.put, qA, qB, qC, qD, qE, qF]
        refine wpAnyH_take (i := 9) (v := .pointer (some ⟨g, 2, none⟩)) rfl (by kernel_rfl) (by kernel_rfl) (by kernel_rfl) (fun _ _ _ h => nomatch h.1) (.inl ⟨by rfl, fun V hV => by go_simp⟩) J ?_
        try simp only [Act.put, qA, qB, qC, qD, qE, qF]
        refine wpAnyH_ready (rs := [4, 10, 16]) (by kernel_rfl) (by simp) ?_
        refine AllReadyH.cons rfl (fun K hK => ?_) (AllReadyH.cons rfl (fun K hK => ?_) (AllReadyH.cons rfl (fun K hK => ?_) AllReadyH.nil))
        · try simp only [Act.put, qA, qB, qC, qD, qE, qF]
          have qq := F.kg.cell 2
          change _ = some (Value.slice (some ⟨gP, 0, none⟩) m c) at qq
          go_simp
          clear qq
          refine hK.out _ _ J (fun _ => ?_)
          clear hK K
          try simp only [Act.put, qA, qB, qC, qD, qE, qF]
          refine wpAnyH_ready (rs := [10, 16]) (by kernel_rfl) (by simp) ?_
          refine AllReadyH.cons rfl (fun K hK => ?_) (AllReadyH.cons rfl (fun K hK => ?_) AllReadyH.nil)
          · try simp only [Act.put, qA, qB, qC, qD, qE, qF]
            have qq := F.kg.cell 2
            change _ = some (Value.slice (some ⟨gP, 0, none⟩) m c) at qq
            go_simp
            clear qq
            refine hK.out _ _ J (fun _ => ?_)
            clear hK K
            try simp only [Act.put, qA, qB, qC, qD, qE, qF]
            refine wpAnyH_take (i := 12) (v := .pointer (some ⟨gP, p * 3, none⟩)) rfl (by kernel_rfl) (by kernel_rfl) (by kernel_rfl) (fun _ _ _ h => nomatch h.1) (.inl ⟨by rfl, fun V hV => by go_simp⟩) J ?_
            try simp only [Act.put, qA, qB, qC, qD, qE, qF]
            refine wpAnyH_take (i := 13) (v := .pointer (some ⟨gP, p * 3, none⟩)) rfl (by kernel_rfl) (by kernel_rfl) (by kernel_rfl) (fun _ _ _ h => nomatch h.1) (.inl ⟨by rfl, fun V hV => by go_simp⟩) J ?_
            try simp only [Act.put, qA, qB, qC, qD, qE, qF]
            refine wpAnyH_ready (rs := [14, 16]) (by kernel_rfl) (by simp) ?_
            refine AllReadyH.cons rfl (fun K hK => ?_) (AllReadyH.cons rfl (fun K hK => ?_) AllReadyH.nil)
            · try simp only [Act.put, qA, qB, qC, qD, qE, qF]
              obtain ⟨b7, off7, he7, hb7, hc7⟩ := F.own.p.rs p HPL.out.1
              cases he7
              rw [HX.out, Nat.zero_add] at hc7
              have qq := hc7 0 _ rfl
              rw [Nat.add_zero] at qq
              change _ = some (Value.int .i64 x.1.i) at qq
              go_simp
              clear qq hc7 hb7
              refine hK.out _ _ J (fun _ => ?_)
              clear hK K
              try simp only [Act.put, qA, qB, qC, qD, qE, qF]
              refine wpAnyH_ready (rs := [16]) (by kernel_rfl) (by simp) ?_
              refine AllReadyH.cons rfl (fun K hK => ?_) AllReadyH.nil
              try simp only [Act.put, qA, qB, qC, qD, qE, qF]
              go_simp
              obtain ⟨gi, egi⟩ : ∃ gi, gi = W0.heap.size := ⟨_, rfl⟩
              have kI := Blk.new_ W0 #[.int .i64 ti] 3 egi.symm
              have ba : Below W0.heap.size W0 (W0.alloc (.cells #[.int .i64 ti] 3)) := (Below.refl _ _).alloc (Nat.le_refl _) _
              have hgiB : B ≤ gi := by rw [egi]; exact hBW
              have hgiV : V.heap.size ≤ gi := by rw [egi]; omega
              have hfi : ∀ y ∈ L, ∀ g', ownT y = some g' → g' < gi := fun y hy g' e => by rw [egi]; exact (zo_at (F.own.q y hy) e).2
              have hfu : ∀ g', (Value.slice Ua1 um1 uc1).ownBlock = some g' → g' < gi := fun g' e => by rw [egi]; exact (zo_at F.own.u e).2
              have F := F.step ba hBW
              have hBW := Nat.le_trans hBW ba.size
              rw [← egi]
              generalize W0.alloc (.cells #[.int .i64 ti] 3) = W1 at F kI hBW ⊢
              clear egi ba
              refine hK.out _ _ J (fun _ => ?_)
              clear hK K
              try simp only [Act.put, qA, qB, qC, qD, qE, qF]
              refine wpAnyH_take (i := 17) (v := .agg #[.int .i64 ti, .int .i64 x.1.i, .slice (some ⟨gi, 0, none⟩) 1 1]) rfl (by kernel_rfl) (by kernel_rfl) (by kernel_rfl) (fun _ _ _ h => nomatch h.1) (.inl ⟨by rfl, fun V hV => by go_simp⟩) J ?_
              try simp only [Act.put, qA, qB, qC, qD, qE, qF]
              refine wpAnyH_ready (rs := [18]) (by kernel_rfl) (by simp) ?_
              refine AllReadyH.cons rfl (fun K hK => ?_) AllReadyH.nil
              try simp only [Act.put, qA, qB, qC, qD, qE, qF]
              go_simp
              obtain ⟨gp, egp⟩ : ∃ gp, gp = W1.heap.size := ⟨_, rfl⟩
              have kP := Blk.new_ W1 (prC ((⟨ti, x.1.i, [ti]⟩ : Pn), (some ⟨gi, 0, none⟩, 1))) 49 egp.symm
              have ba : Below W1.heap.size W1 (W1.alloc (.cells (prC ((⟨ti, x.1.i, [ti]⟩ : Pn), (some ⟨gi, 0, none⟩, 1))) 49)) := (Below.refl _ _).alloc (Nat.le_refl _) _
              have hgpP : ∀ g', (Value.slice (some ⟨gP, 0, none⟩) m c).ownBlock = some g' → gp ≠ g' := fun g' e => by
                obtain ⟨cur, k⟩ := roP_blk F.own.p e
                have := k.lt
                rw [egp]; omega
              have F := F.step ba hBW
              have kI := kI.below ba kI.lt
              have hBW := Nat.le_trans hBW ba.size
              rw [← egp]
              show K _ (W1.alloc (.cells (prC ((⟨ti, x.1.i, [ti]⟩ : Pn), (some ⟨gi, 0, none⟩, 1))) 49))
              generalize W1.alloc (.cells (prC ((⟨ti, x.1.i, [ti]⟩ : Pn), (some ⟨gi, 0, none⟩, 1))) 49) = W2 at F kI kP hBW ⊢
              clear egp ba
              refine hK.out _ _ J (fun _ => ?_)
              clear hK K
              try simp only [Act.put, qA, qB, qC, qD, qE, qF]
              refine wpAnyH_ready (rs := [19]) (by kernel_rfl) (by simp) ?_
              refine AllReadyH.cons rfl (fun K hK => ?_) AllReadyH.nil
              try simp only [Act.put, qA, qB, qC, qD, qE, qF]
              go_simp
              refine (insert_P B (some ⟨gP, 0, none⟩) m c pl L ((⟨ti, x.1.i, [ti]⟩ : Pn), (some ⟨gi, 0, none⟩, 1)) gp W2 F.own.p kP.blk hgpP hm7 hBW hle).mono ?_
              rintro e W3 ⟨A9, c9, rfl, rp, hgr, bb⟩
              go_wp2_with fail
              have hrow : ∀ g', (Value.slice (some ⟨gP, 0, none⟩) m c).ownBlock = some g' → ∃ cs t, Blk W2 g' cs t ∧ t = 49 := fun g' e => by obtain ⟨cur, k⟩ := roP_blk F.own.p e; exact ⟨cur, _, k, rfl⟩
              have hkz : ∀ {A m c l}, Zo W2 B A m c l → Zo W3 B A m c l := fun h => own_kind h hgr (fun g' e => by obtain ⟨cs, t, k, rfl⟩ := hrow g' e; exact ⟨cs, _, k, by decide⟩)
              have kg3 : Blk W3 g (tkC ta Ua1 um1 uc1 (some ⟨gP, 0, none⟩) m c) 27 := ⟨(hgr.block g F.kg.lt (fun e => by
                obtain ⟨cs, t, k, rfl⟩ := hrow g e.symm
                exact absurd (blk_kind k F.kg) (by decide))).trans F.kg.blk⟩
              have hzi : Zo W3 B (some ⟨gi, 0, none⟩) 1 1 [ti] := hkz (zo_block hgiB kI.blk (Nat.le_refl _) (by simp [maxLen]) rfl rfl rfl)
              have own3 : OwnT W3 B Ua1 um1 uc1 tl A9 (m + 1) c9 (insL pl ((⟨ti, x.1.i, [ti]⟩ : Pn), (some ⟨gi, 0, none⟩, 1)) L) := ⟨hkz F.own.u, rp, fun y hy => by
                rcases mem_insP7.1 hy with rfl | hy
                · exact hzi
                · exact hkz (F.own.q y hy), qd_iff.2 (ap_ins (qd_iff.1 F.own.qd) (fun y hy g' h1 h2 => by
                  cases h1
                  exact absurd (hfi y hy _ h2) (Nat.lt_irrefl _))), fun y hy g' h1 h2 => by
                rcases mem_insP7.1 hy with rfl | hy
                · cases h1
                  exact absurd (hfu _ h2) (Nat.lt_irrefl _)
                · exact F.own.ud y hy g' h1 h2⟩
              have hb3 := F.b.trans bb
              clear hgr bb hrow hkz hzi rp
              refine hK.out _ _ J (fun _ => ?_)
              clear hK K
              try simp only [Act.put, qA, qB, qC, qD, qE, qF]
              refine wpAnyH_take (i := 20) (v := .pointer (some ⟨g, 0, none⟩)) rfl (by kernel_rfl) (by kernel_rfl) (by kernel_rfl) (fun _ _ _ h => nomatch h.1) (.inl ⟨by rfl, fun V hV => by go_simp⟩) J ?_
              try simp only [Act.put, qA, qB, qC, qD, qE, qF]
              refine wpAnyH_take (i := 21) (v := .pointer (some ⟨g, 2, none⟩)) rfl (by kernel_rfl) (by kernel_rfl) (by kernel_rfl) (fun _ _ _ h => nomatch h.1) (.inl ⟨by rfl, fun V hV => by go_simp⟩) J ?_
              try simp only [Act.put, qA, qB, qC, qD, qE, qF]
              refine wpAnyH_ready (rs := [22]) (by kernel_rfl) (by simp) ?_
              refine AllReadyH.cons rfl (fun K hK => ?_) AllReadyH.nil
              try simp only [Act.put, qA, qB, qC, qD, qE, qF]
              have q0 : W3.cell? ⟨g, 2, none⟩ = some (.slice (some ⟨gP, 0, none⟩) m c) := kg3.cell 2
              have f0 := kg3.frozen 2
              go_simp
              clear q0 f0
              have n4 : But g W3 (W3.setCell ⟨g, 2, none⟩ (.slice A9 (m + 1) c9)) := (But.refl g W3).setCell (p := ⟨g, 2, none⟩) (.inl rfl) _
              have own4 := own3.kind n4 kg3 (by decide) (by decide)
              have kg4 := kg3.set_ 2 (.slice A9 (m + 1) c9)
              have hb4 := hb3.trans (n4.below _ hBg (Nat.le_trans hBV hb3.size))
              generalize W3.setCell ⟨g, 2, none⟩ (.slice A9 (m + 1) c9) = W4 at own4 kg4 hb4 ⊢
              refine hK.out _ _ J (fun _ => ?_)
              clear hK K
              try simp only [Act.put, qA, qB, qC, qD, qE, qF]
              refine wpAnyH_done (by kernel_rfl) ?_ _
              refine ⟨rfl, ?_⟩
              clear J
              go_wp2_with fail
              refine bodyPost_ret (results_tmp2 rfl _ _ _) rfl ?_
              have hnames : (insL pl ((⟨ti, x.1.i, [ti]⟩ : Pn), (some ⟨gi, 0, none⟩, 1)) L).map (·.1) = insL pl ⟨ti, x.1.i, [ti]⟩ P := by rw [ins_names, HPL.out.2.1]
              have hcn : cntT (insL pl ⟨ti, x.1.i, [ti]⟩ P) = cntT P + 1 := cnt_ins
              exact ⟨rfl, hb4, fun _ => ⟨Ua1, um1, uc1, A9, m + 1, c9, _, kg4, own4.tk (by rw [HZU.out]; exact HTL.out (by trivial)) hm7 (fun y hy => by
                have := cnt_le (P := insL pl ⟨ti, x.1.i, [ti]⟩ P) (x := y.1) (by rw [← hnames]; exact List.mem_map.2 ⟨y, hy, rfl⟩)
                omega) (by rw [thr_cnt, hnames]; omega), hnames.trans (by rw [HPE.out]), own4⟩⟩
            · try simp only [Act.put, qA, qB, qC, qD, qE, qF]
              go_simp
              obtain ⟨gi, egi⟩ : ∃ gi, gi = W0.heap.size := ⟨_, rfl⟩
              have kI := Blk.new_ W0 #[.int .i64 ti] 3 egi.symm
              have ba : Below W0.heap.size W0 (W0.alloc (.cells #[.int .i64 ti] 3)) := (Below.refl _ _).alloc (Nat.le_refl _) _
              have hgiB : B ≤ gi := by rw [egi]; exact hBW
              have hgiV : V.heap.size ≤ gi := by rw [egi]; omega
              have hfi : ∀ y ∈ L, ∀ g', ownT y = some g' → g' < gi := fun y hy g' e => by rw [egi]; exact (zo_at (F.own.q y hy) e).2
              have hfu : ∀ g', (Value.slice Ua1 um1 uc1).ownBlock = some g' → g' < gi := fun g' e => by rw [egi]; exact (zo_at F.own.u e).2
              have F := F.step ba hBW
              have hBW := Nat.le_trans hBW ba.size
              rw [← egi]
              generalize W0.alloc (.cells #[.int .i64 ti] 3) = W1 at F kI hBW ⊢
              clear egi ba
              refine hK.out _ _ J (fun _ => ?_)
              clear hK K
              try simp only [Act.put, qA, qB, qC, qD, qE, qF]
              refine wpAnyH_ready (rs := [14]) (by kernel_rfl) (by simp) ?_
              refine AllReadyH.cons rfl (fun K hK => ?_) AllReadyH.nil
              try simp only [Act.put, qA, qB, qC, qD, qE, qF]
              obtain ⟨b7, off7, he7, hb7, hc7⟩ := F.own.p.rs p HPL.out.1
              cases he7
              rw [HX.out, Nat.zero_add] at hc7
              have qq := hc7 0 _ rfl
              rw [Nat.add_zero] at qq
              change _ = some (Value.int .i64 x.1.i) at qq
              go_simp
              clear qq hc7 hb7
              refine hK.out _ _ J (fun _ => ?_)
              clear hK K
              try simp only [Act.put, qA, qB, qC, qD, qE, qF]
              refine wpAnyH_take (i := 17) (v := .agg #[.int .i64 ti, .int .i64 x.1.i, .slice (some ⟨gi, 0, none⟩) 1 1]) rfl (by kernel_rfl) (by kernel_rfl) (by kernel_rfl) (fun _ _ _ h => nomatch h.1) (.inl ⟨by rfl, fun V hV => by go_simp⟩) J ?_
              try simp only [Act.put, qA, qB, qC, qD, qE, qF]
              refine wpAnyH_ready (rs := [18]) (by kernel_rfl) (by simp) ?_
              refine AllReadyH.cons rfl (fun K hK => ?_) AllReadyH.nil
              try simp only [Act.put, qA, qB, qC, qD, qE, qF]
              go_simp
              obtain ⟨gp, egp⟩ : ∃ gp, gp = W1.heap.size := ⟨_, rfl⟩
              have kP := Blk.new_ W1 (prC ((⟨ti, x.1.i, [ti]⟩ : Pn), (some ⟨gi, 0, none⟩, 1))) 49 egp.symm
              have ba : Below W1.heap.size W1 (W1.alloc (.cells (prC ((⟨ti, x.1.i, [ti]⟩ : Pn), (some ⟨gi, 0, none⟩, 1))) 49)) := (Below.refl _ _).alloc (Nat.le_refl _) _
              have hgpP : ∀ g', (Value.slice (some ⟨gP, 0, none⟩) m c).ownBlock = some g' → gp ≠ g' := fun g' e => by
                obtain ⟨cur, k⟩ := roP_blk F.own.p e
                have := k.lt
                rw [egp]; omega
              have F := F.step ba hBW
              have kI := kI.below ba kI.lt
              have hBW := Nat.le_trans hBW ba.size
              rw [← egp]
              show K _ (W1.alloc (.cells (prC ((⟨ti, x.1.i, [ti]⟩ : Pn), (some ⟨gi, 0, none⟩, 1))) 49))
              generalize W1.alloc (.cells (prC ((⟨ti, x.1.i, [ti]⟩ : Pn), (some ⟨gi, 0, none⟩, 1))) 49) = W2 at F kI kP hBW ⊢
              clear egp ba
              refine hK.out _ _ J (fun _ => ?_)
              clear hK K
              try simp only [Act.put, qA, qB, qC, qD, qE, qF]
              refine wpAnyH_ready (rs := [19]) (by kernel_rfl) (by simp) ?_
              refine AllReadyH.cons rfl (fun K hK => ?_) AllReadyH.nil
              try simp only [Act.put, qA, qB, qC, qD, qE, qF]
              go_simp
              refine (insert_P B (some ⟨gP, 0, none⟩) m c pl L ((⟨ti, x.1.i, [ti]⟩ : Pn), (some ⟨gi, 0, none⟩, 1)) gp W2 F.own.p kP.blk hgpP hm7 hBW hle).mono ?_
              rintro e W3 ⟨A9, c9, rfl, rp, hgr, bb⟩
              go_wp2_with fail
              have hrow : ∀ g', (Value.slice (some ⟨gP, 0, none⟩) m c).ownBlock = some g' → ∃ cs t, Blk W2 g' cs t ∧ t = 49 := fun g' e => by obtain ⟨cur, k⟩ := roP_blk F.own.p e; exact ⟨cur, _, k, rfl⟩
              have hkz : ∀ {A m c l}, Zo W2 B A m c l → Zo W3 B A m c l := fun h => own_kind h hgr (fun g' e => by obtain ⟨cs, t, k, rfl⟩ := hrow g' e; exact ⟨cs, _, k, by decide⟩)
              have kg3 : Blk W3 g (tkC ta Ua1 um1 uc1 (some ⟨gP, 0, none⟩) m c) 27 := ⟨(hgr.block g F.kg.lt (fun e => by
                obtain ⟨cs, t, k, rfl⟩ := hrow g e.symm
                exact absurd (blk_kind k F.kg) (by decide))).trans F.kg.blk⟩
              have hzi : Zo W3 B (some ⟨gi, 0, none⟩) 1 1 [ti] := hkz (zo_block hgiB kI.blk (Nat.le_refl _) (by simp [maxLen]) rfl rfl rfl)
              have own3 : OwnT W3 B Ua1 um1 uc1 tl A9 (m + 1) c9 (insL pl ((⟨ti, x.1.i, [ti]⟩ : Pn), (some ⟨gi, 0, none⟩, 1)) L) := ⟨hkz F.own.u, rp, fun y hy => by
                rcases mem_insP7.1 hy with rfl | hy
                · exact hzi
                · exact hkz (F.own.q y hy), qd_iff.2 (ap_ins (qd_iff.1 F.own.qd) (fun y hy g' h1 h2 => by
                  cases h1
                  exact absurd (hfi y hy _ h2) (Nat.lt_irrefl _))), fun y hy g' h1 h2 => by
                rcases mem_insP7.1 hy with rfl | hy
                · cases h1
                  exact absurd (hfu _ h2) (Nat.lt_irrefl _)
                · exact F.own.ud y hy g' h1 h2⟩
              have hb3 := F.b.trans bb
              clear hgr bb hrow hkz hzi rp
              refine hK.out _ _ J (fun _ => ?_)
              clear hK K
              try simp only [Act.put, qA, qB, qC, qD, qE, qF]
              refine wpAnyH_take (i := 20) (v := .pointer (some ⟨g, 0, none⟩)) rfl (by kernel_rfl) (by kernel_rfl) (by kernel_rfl) (fun _ _ _ h => nomatch h.1) (.inl ⟨by rfl, fun V hV => by go_simp⟩) J ?_
              try simp only [Act.put, qA, qB, qC, qD, qE, qF]
              refine wpAnyH_take (i := 21) (v := .pointer (some ⟨g, 2, none⟩)) rfl (by kernel_rfl) (by kernel_rfl) (by kernel_rfl) (fun _ _ _ h => nomatch h.1) (.inl ⟨by rfl, fun V hV => by go_simp⟩) J ?_
              try simp only [Act.put, qA, qB, qC, qD, qE, qF]
              refine wpAnyH_ready (rs := [22]) (by kernel_rfl) (by simp) ?_
              refine AllReadyH.cons rfl (fun K hK => ?_) AllReadyH.nil
              try simp only [Act.put, qA, qB, qC, qD, qE, qF]
              have q0 : W3.cell? ⟨g, 2, none⟩ = some (.slice (some ⟨gP, 0, none⟩) m c) := kg3.cell 2
              have f0 := kg3.frozen 2
              go_simp
              clear q0 f0
              have n4 : But g W3 (W3.setCell ⟨g, 2, none⟩ (.slice A9 (m + 1) c9)) := (But.refl g W3).setCell (p := ⟨g, 2, none⟩) (.inl rfl) _
              have own4 := own3.kind n4 kg3 (by decide) (by decide)
              have kg4 := kg3.set_ 2 (.slice A9 (m + 1) c9)
              have hb4 := hb3.trans (n4.below _ hBg (Nat.le_trans hBV hb3.size))
              generalize W3.setCell ⟨g, 2, none⟩ (.slice A9 (m + 1) c9) = W4 at own4 kg4 hb4 ⊢
              refine hK.out _ _ J (fun _ => ?_)
              clear hK K
              try simp only [Act.put, qA, qB, qC, qD, qE, qF]
              refine wpAnyH_done (by kernel_rfl) ?_ _
              refine ⟨rfl, ?_⟩
              clear J
              go_wp2_with fail
              refine bodyPost_ret (results_tmp2 rfl _ _ _) rfl ?_
              have hnames : (insL pl ((⟨ti, x.1.i, [ti]⟩ : Pn), (some ⟨gi, 0, none⟩, 1)) L).map (·.1) = insL pl ⟨ti, x.1.i, [ti]⟩ P := by rw [ins_names, HPL.out.2.1]
              have hcn : cntT (insL pl ⟨ti, x.1.i, [ti]⟩ P) = cntT P + 1 := cnt_ins
              exact ⟨rfl, hb4, fun _ => ⟨Ua1, um1, uc1, A9, m + 1, c9, _, kg4, own4.tk (by rw [HZU.out]; exact HTL.out (by trivial)) hm7 (fun y hy => by
                have := cnt_le (P := insL pl ⟨ti, x.1.i, [ti]⟩ P) (x := y.1) (by rw [← hnames]; exact List.mem_map.2 ⟨y, hy, rfl⟩)
                omega) (by rw [thr_cnt, hnames]; omega), hnames.trans (by rw [HPE.out]), own4⟩⟩
          · try simp only [Act.put, qA, qB, qC, qD, qE, qF]
            go_simp
            obtain ⟨gi, egi⟩ : ∃ gi, gi = W0.heap.size := ⟨_, rfl⟩
            have kI := Blk.new_ W0 #[.int .i64 ti] 3 egi.symm
            have ba : Below W0.heap.size W0 (W0.alloc (.cells #[.int .i64 ti] 3)) := (Below.refl _ _).alloc (Nat.le_refl _) _
            have hgiB : B ≤ gi := by rw [egi]; exact hBW
            have hgiV : V.heap.size ≤ gi := by rw [egi]; omega
            have hfi : ∀ y ∈ L, ∀ g', ownT y = some g' → g' < gi := fun y hy g' e => by rw [egi]; exact (zo_at (F.own.q y hy) e).2
            have hfu : ∀ g', (Value.slice Ua1 um1 uc1).ownBlock = some g' → g' < gi := fun g' e => by rw [egi]; exact (zo_at F.own.u e).2
            have F := F.step ba hBW
            have hBW := Nat.le_trans hBW ba.size
            rw [← egi]
            generalize W0.alloc (.cells #[.int .i64 ti] 3) = W1 at F kI hBW ⊢
            clear egi ba
            refine hK.out _ _ J (fun _ => ?_)
            clear hK K
            try simp only [Act.put, qA, qB, qC, qD, qE, qF]
            refine wpAnyH_ready (rs := [10]) (by kernel_rfl) (by simp) ?_
            refine AllReadyH.cons rfl (fun K hK => ?_) AllReadyH.nil
            try simp only [Act.put, qA, qB, qC, qD, qE, qF]
            have qq := F.kg.cell 2
            change _ = some (Value.slice (some ⟨gP, 0, none⟩) m c) at qq
            go_simp
            clear qq
            refine hK.out _ _ J (fun _ => ?_)
            clear hK K
            try simp only [Act.put, qA, qB, qC, qD, qE, qF]
            refine wpAnyH_take (i := 12) (v := .pointer (some ⟨gP, p * 3, none⟩)) rfl (by kernel_rfl) (by kernel_rfl) (by kernel_rfl) (fun _ _ _ h => nomatch h.1) (.inl ⟨by rfl, fun V hV => by go_simp⟩) J ?_
            try simp only [Act.put, qA, qB, qC, qD, qE, qF]
            refine wpAnyH_take (i := 13) (v := .pointer (some ⟨gP, p * 3, none⟩)) rfl (by kernel_rfl) (by kernel_rfl) (by kernel_rfl) (fun _ _ _ h => nomatch h.1) (.inl ⟨by rfl, fun V hV => by go_simp⟩) J ?_
            try simp only [Act.put, qA, qB, qC, qD, qE, qF]
            refine wpAnyH_ready (rs := [14]) (by kernel_rfl) (by simp) ?_
            refine AllReadyH.cons rfl (fun K hK => ?_) AllReadyH.nil
            try simp only [Act.put, qA, qB, qC, qD, qE, qF]
            obtain ⟨b7, off7, he7, hb7, hc7⟩ := F.own.p.rs p HPL.out.1
            cases he7
            rw [HX.out, Nat.zero_add] at hc7
            have qq := hc7 0 _ rfl
            rw [Nat.add_zero] at qq
            change _ = some (Value.int .i64 x.1.i) at qq
            go_simp
            clear qq hc7 hb7
            refine hK.out _ _ J (fun _ => ?_)
            clear hK K
            try simp only [Act.put, qA, qB, qC, qD, qE, qF]
            refine wpAnyH_take (i := 17) (v := .agg #[.int .i64 ti, .int .i64 x.1.i, .slice (some ⟨gi, 0, none⟩) 1 1]) rfl (by kernel_rfl) (by kernel_rfl) (by kernel_rfl) (fun _ _ _ h => nomatch h.1) (.inl ⟨by rfl, fun V hV => by go_simp⟩) J ?_
            try simp only [Act.put, qA, qB, qC, qD, qE, qF]
            refine wpAnyH_ready (rs := [18]) (by kernel_rfl) (by simp) ?_
            refine AllReadyH.cons rfl (fun K hK => ?_) AllReadyH.nil
            try simp only [Act.put, qA, qB, qC, qD, qE, qF]
            go_simp
            obtain ⟨gp, egp⟩ : ∃ gp, gp = W1.heap.size := ⟨_, rfl⟩
            have kP := Blk.new_ W1 (prC ((⟨ti, x.1.i, [ti]⟩ : Pn), (some ⟨gi, 0, none⟩, 1))) 49 egp.symm
            have ba : Below W1.heap.size W1 (W1.alloc (.cells (prC ((⟨ti, x.1.i, [ti]⟩ : Pn), (some ⟨gi, 0, none⟩, 1))) 49)) := (Below.refl _ _).alloc (Nat.le_refl _) _
            have hgpP : ∀ g', (Value.slice (some ⟨gP, 0, none⟩) m c).ownBlock = some g' → gp ≠ g' := fun g' e => by
              obtain ⟨cur, k⟩ := roP_blk F.own.p e
              have := k.lt
              rw [egp]; omega
            have F := F.step ba hBW
            have kI := kI.below ba kI.lt
            have hBW := Nat.le_trans hBW ba.size
            rw [← egp]
            show K _ (W1.alloc (.cells (prC ((⟨ti, x.1.i, [ti]⟩ : Pn), (some ⟨gi, 0, none⟩, 1))) 49))
            generalize W1.alloc (.cells (prC ((⟨ti, x.1.i, [ti]⟩ : Pn), (some ⟨gi, 0, none⟩, 1))) 49) = W2 at F kI kP hBW ⊢
            clear egp ba
            refine hK.out _ _ J (fun _ => ?_)
            clear hK K
            try simp only [Act.put, qA, qB, qC, qD, qE, qF]
            refine wpAnyH_ready (rs := [19]) (by kernel_rfl) (by simp) ?_
            refine AllReadyH.cons rfl (fun K hK => ?_) AllReadyH.nil
            try simp only [Act.put, qA, qB, qC, qD, qE, qF]
            go_simp
            refine (insert_P B (some ⟨gP, 0, none⟩) m c pl L ((⟨ti, x.1.i, [ti]⟩ : Pn), (some ⟨gi, 0, none⟩, 1)) gp W2 F.own.p kP.blk hgpP hm7 hBW hle).mono ?_
            rintro e W3 ⟨A9, c9, rfl, rp, hgr, bb⟩
            go_wp2_with fail
            have hrow : ∀ g', (Value.slice (some ⟨gP, 0, none⟩) m c).ownBlock = some g' → ∃ cs t, Blk W2 g' cs t ∧ t = 49 := fun g' e => by obtain ⟨cur, k⟩ := roP_blk F.own.p e; exact ⟨cur, _, k, rfl⟩
            have hkz : ∀ {A m c l}, Zo W2 B A m c l → Zo W3 B A m c l := fun h => own_kind h hgr (fun g' e => by obtain ⟨cs, t, k, rfl⟩ := hrow g' e; exact ⟨cs, _, k, by decide⟩)
            have kg3 : Blk W3 g (tkC ta Ua1 um1 uc1 (some ⟨gP, 0, none⟩) m c) 27 := ⟨(hgr.block g F.kg.lt (fun e => by
              obtain ⟨cs, t, k, rfl⟩ := hrow g e.symm
              exact absurd (blk_kind k F.kg) (by decide))).trans F.kg.blk⟩
            have hzi : Zo W3 B (some ⟨gi, 0, none⟩) 1 1 [ti] := hkz (zo_block hgiB kI.blk (Nat.le_refl _) (by simp [maxLen]) rfl rfl rfl)
            have own3 : OwnT W3 B Ua1 um1 uc1 tl A9 (m + 1) c9 (insL pl ((⟨ti, x.1.i, [ti]⟩ : Pn), (some ⟨gi, 0, none⟩, 1)) L) := ⟨hkz F.own.u, rp, fun y hy => by
              rcases mem_insP7.1 hy with rfl | hy
              · exact hzi
              · exact hkz (F.own.q y hy), qd_iff.2 (ap_ins (qd_iff.1 F.own.qd) (fun y hy g' h1 h2 => by
                cases h1
                exact absurd (hfi y hy _ h2) (Nat.lt_irrefl _))), fun y hy g' h1 h2 => by
              rcases mem_insP7.1 hy with rfl | hy
              · cases h1
                exact absurd (hfu _ h2) (Nat.lt_irrefl _)
              · exact F.own.ud y hy g' h1 h2⟩
            have hb3 := F.b.trans bb
            clear hgr bb hrow hkz hzi rp
            refine hK.out _ _ J (fun _ => ?_)
            clear hK K
            try simp only [Act.put, qA, qB, qC, qD, qE, qF]
            refine wpAnyH_take (i := 20) (v := .pointer (some ⟨g, 0, none⟩)) rfl (by kernel_rfl) (by kernel_rfl) (by kernel_rfl) (fun _ _ _ h => nomatch h.1) (.inl ⟨by rfl, fun V hV => by go_simp⟩) J ?_
            try simp only [Act.put, qA, qB, qC, qD, qE, qF]
            refine wpAnyH_take (i := 21) (v := .pointer (some ⟨g, 2, none⟩)) rfl (by kernel_rfl) (by kernel_rfl) (by kernel_rfl) (fun _ _ _ h => nomatch h.1) (.inl ⟨by rfl, fun V hV => by go_simp⟩) J ?_
            try simp only [Act.put, qA, qB, qC, qD, qE, qF]
            refine wpAnyH_ready (rs := [22]) (by kernel_rfl) (by simp) ?_
            refine AllReadyH.cons rfl (fun K hK => ?_) AllReadyH.nil
            try simp only [Act.put, qA, qB, qC, qD, qE, qF]
            have q0 : W3.cell? ⟨g, 2, none⟩ = some (.slice (some ⟨gP, 0, none⟩) m c) := kg3.cell 2
            have f0 := kg3.frozen 2
            go_simp
            clear q0 f0
            have n4 : But g W3 (W3.setCell ⟨g, 2, none⟩ (.slice A9 (m + 1) c9)) := (But.refl g W3).setCell (p := ⟨g, 2, none⟩) (.inl rfl) _
            have own4 := own3.kind n4 kg3 (by decide) (by decide)
            have kg4 := kg3.set_ 2 (.slice A9 (m + 1) c9)
            have hb4 := hb3.trans (n4.below _ hBg (Nat.le_trans hBV hb3.size))
            generalize W3.setCell ⟨g, 2, none⟩ (.slice A9 (m + 1) c9) = W4 at own4 kg4 hb4 ⊢
            refine hK.out _ _ J (fun _ => ?_)
            clear hK K
            try simp only [Act.put, qA, qB, qC, qD, qE, qF]
            refine wpAnyH_done (by kernel_rfl) ?_ _
            refine ⟨rfl, ?_⟩
            clear J
            go_wp2_with fail
            refine bodyPost_ret (results_tmp2 rfl _ _ _) rfl ?_
            have hnames : (insL pl ((⟨ti, x.1.i, [ti]⟩ : Pn), (some ⟨gi, 0, none⟩, 1)) L).map (·.1) = insL pl ⟨ti, x.1.i, [ti]⟩ P := by rw [ins_names, HPL.out.2.1]
            have hcn : cntT (insL pl ⟨ti, x.1.i, [ti]⟩ P) = cntT P + 1 := cnt_ins
            exact ⟨rfl, hb4, fun _ => ⟨Ua1, um1, uc1, A9, m + 1, c9, _, kg4, own4.tk (by rw [HZU.out]; exact HTL.out (by trivial)) hm7 (fun y hy => by
              have := cnt_le (P := insL pl ⟨ti, x.1.i, [ti]⟩ P) (x := y.1) (by rw [← hnames]; exact List.mem_map.2 ⟨y, hy, rfl⟩)
              omega) (by rw [thr_cnt, hnames]; omega), hnames.trans (by rw [HPE.out]), own4⟩⟩
        · try simp only [Act.put, qA, qB, qC, qD, qE, qF]
          have qq := F.kg.cell 2
          change _ = some (Value.slice (some ⟨gP, 0, none⟩) m c) at qq
          go_simp
          clear qq
          refine hK.out _ _ J (fun _ => ?_)
          clear hK K
          try simp only [Act.put, qA, qB, qC, qD, qE, qF]
          refine wpAnyH_take (i := 12) (v := .pointer (some ⟨gP, p * 3, none⟩)) rfl (by kernel_rfl) (by kernel_rfl) (by kernel_rfl) (fun _ _ _ h => nomatch h.1) (.inl ⟨by rfl, fun V hV => by go_simp⟩) J ?_
          try simp only [Act.put, qA, qB, qC, qD, qE, qF]
          refine wpAnyH_take (i := 13) (v := .pointer (some ⟨gP, p * 3, none⟩)) rfl (by kernel_rfl) (by kernel_rfl) (by kernel_rfl) (fun _ _ _ h => nomatch h.1) (.inl ⟨by rfl, fun V hV => by go_simp⟩) J ?_
          try simp only [Act.put, qA, qB, qC, qD, qE, qF]
          refine wpAnyH_ready (rs := [4, 14, 16]) (by kernel_rfl) (by simp) ?_
          refine AllReadyH.cons rfl (fun K hK => ?_) (AllReadyH.cons rfl (fun K hK => ?_) (AllReadyH.cons rfl (fun K hK => ?_) AllReadyH.nil))
          · try simp only [Act.put, qA, qB, qC, qD, qE, qF]
            have qq := F.kg.cell 2
            change _ = some (Value.slice (some ⟨gP, 0, none⟩) m c) at qq
            go_simp
            clear qq
            refine hK.out _ _ J (fun _ => ?_)
            clear hK K
            try simp only [Act.put, qA, qB, qC, qD, qE, qF]
            refine wpAnyH_ready (rs := [14, 16]) (by kernel_rfl) (by simp) ?_
            refine AllReadyH.cons rfl (fun K hK => ?_) (AllReadyH.cons rfl (fun K hK => ?_) AllReadyH.nil)
            · try simp only [Act.put, qA, qB, qC, qD, qE, qF]
              obtain ⟨b7, off7, he7, hb7, hc7⟩ := F.own.p.rs p HPL.out.1
              cases he7
              rw [HX.out, Nat.zero_add] at hc7
              have qq := hc7 0 _ rfl
              rw [Nat.add_zero] at qq
              change _ = some (Value.int .i64 x.1.i) at qq
              go_simp
              clear qq hc7 hb7
              refine hK.out _ _ J (fun _ => ?_)
              clear hK K
              try simp only [Act.put, qA, qB, qC, qD, qE, qF]
              refine wpAnyH_ready (rs := [16]) (by kernel_rfl) (by simp) ?_
              refine AllReadyH.cons rfl (fun K hK => ?_) AllReadyH.nil
              try simp only [Act.put, qA, qB, qC, qD, qE, qF]
              go_simp
              obtain ⟨gi, egi⟩ : ∃ gi, gi = W0.heap.size := ⟨_, rfl⟩
              have kI := Blk.new_ W0 #[.int .i64 ti] 3 egi.symm
              have ba : Below W0.heap.size W0 (W0.alloc (.cells #[.int .i64 ti] 3)) := (Below.refl _ _).alloc (Nat.le_refl _) _
              have hgiB : B ≤ gi := by rw [egi]; exact hBW
              have hgiV : V.heap.size ≤ gi := by rw [egi]; omega
              have hfi : ∀ y ∈ L, ∀ g', ownT y = some g' → g' < gi := fun y hy g' e => by rw [egi]; exact (zo_at (F.own.q y hy) e).2
              have hfu : ∀ g', (Value.slice Ua1 um1 uc1).ownBlock = some g' → g' < gi := fun g' e => by rw [egi]; exact (zo_at F.own.u e).2
              have F := F.step ba hBW
              have hBW := Nat.le_trans hBW ba.size
              rw [← egi]
              generalize W0.alloc (.cells #[.int .i64 ti] 3) = W1 at F kI hBW ⊢
              clear egi ba
              refine hK.out _ _ J (fun _ => ?_)
              clear hK K
              try simp only [Act.put, qA, qB, qC, qD, qE, qF]
              refine wpAnyH_take (i := 17) (v := .agg #[.int .i64 ti, .int .i64 x.1.i, .slice (some ⟨gi, 0, none⟩) 1 1]) rfl (by kernel_rfl) (by kernel_rfl) (by kernel_rfl) (fun _ _ _ h => nomatch h.1) (.inl ⟨by rfl, fun V hV => by go_simp⟩) J ?_
              try simp only [Act.put, qA, qB, qC, qD, qE, qF]
              refine wpAnyH_ready (rs := [18]) (by kernel_rfl) (by simp) ?_
              refine AllReadyH.cons rfl (fun K hK => ?_) AllReadyH.nil
              try simp only [Act.put, qA, qB, qC, qD, qE, qF]
              go_simp
              obtain ⟨gp, egp⟩ : ∃ gp, gp = W1.heap.size := ⟨_, rfl⟩
              have kP := Blk.new_ W1 (prC ((⟨ti, x.1.i, [ti]⟩ : Pn), (some ⟨gi, 0, none⟩, 1))) 49 egp.symm
              have ba : Below W1.heap.size W1 (W1.alloc (.cells (prC ((⟨ti, x.1.i, [ti]⟩ : Pn), (some ⟨gi, 0, none⟩, 1))) 49)) := (Below.refl _ _).alloc (Nat.le_refl _) _
              have hgpP : ∀ g', (Value.slice (some ⟨gP, 0, none⟩) m c).ownBlock = some g' → gp ≠ g' := fun g' e => by
                obtain ⟨cur, k⟩ := roP_blk F.own.p e
                have := k.lt
                rw [egp]; omega
              have F := F.step ba hBW
              have kI := kI.below ba kI.lt
              have hBW := Nat.le_trans hBW ba.size
              rw [← egp]
              show K _ (W1.alloc (.cells (prC ((⟨ti, x.1.i, [ti]⟩ : Pn), (some ⟨gi, 0, none⟩, 1))) 49))
              generalize W1.alloc (.cells (prC ((⟨ti, x.1.i, [ti]⟩ : Pn), (some ⟨gi, 0, none⟩, 1))) 49) = W2 at F kI kP hBW ⊢
              clear egp ba
              refine hK.out _ _ J (fun _ => ?_)
              clear hK K
              try simp only [Act.put, qA, qB, qC, qD, qE, qF]
              refine wpAnyH_ready (rs := [19]) (by kernel_rfl) (by simp) ?_
              refine AllReadyH.cons rfl (fun K hK => ?_) AllReadyH.nil
              try simp only [Act.put, qA, qB, qC, qD, qE, qF]
              go_simp
              refine (insert_P B (some ⟨gP, 0, none⟩) m c pl L ((⟨ti, x.1.i, [ti]⟩ : Pn), (some ⟨gi, 0, none⟩, 1)) gp W2 F.own.p kP.blk hgpP hm7 hBW hle).mono ?_
              rintro e W3 ⟨A9, c9, rfl, rp, hgr, bb⟩
              go_wp2_with fail
              have hrow : ∀ g', (Value.slice (some ⟨gP, 0, none⟩) m c).ownBlock = some g' → ∃ cs t, Blk W2 g' cs t ∧ t = 49 := fun g' e => by obtain ⟨cur, k⟩ := roP_blk F.own.p e; exact ⟨cur, _, k, rfl⟩
              have hkz : ∀ {A m c l}, Zo W2 B A m c l → Zo W3 B A m c l := fun h => own_kind h hgr (fun g' e => by obtain ⟨cs, t, k, rfl⟩ := hrow g' e; exact ⟨cs, _, k, by decide⟩)
              have kg3 : Blk W3 g (tkC ta Ua1 um1 uc1 (some ⟨gP, 0, none⟩) m c) 27 := ⟨(hgr.block g F.kg.lt (fun e => by
                obtain ⟨cs, t, k, rfl⟩ := hrow g e.symm
                exact absurd (blk_kind k F.kg) (by decide))).trans F.kg.blk⟩
              have hzi : Zo W3 B (some ⟨gi, 0, none⟩) 1 1 [ti] := hkz (zo_block hgiB kI.blk (Nat.le_refl _) (by simp [maxLen]) rfl rfl rfl)
              have own3 : OwnT W3 B Ua1 um1 uc1 tl A9 (m + 1) c9 (insL pl ((⟨ti, x.1.i, [ti]⟩ : Pn), (some ⟨gi, 0, none⟩, 1)) L) := ⟨hkz F.own.u, rp, fun y hy => by
                rcases mem_insP7.1 hy with rfl | hy
                · exact hzi
                · exact hkz (F.own.q y hy), qd_iff.2 (ap_ins (qd_iff.1 F.own.qd) (fun y hy g' h1 h2 => by
                  cases h1
                  exact absurd (hfi y hy _ h2) (Nat.lt_irrefl _))), fun y hy g' h1 h2 => by
                rcases mem_insP7.1 hy with rfl | hy
                · cases h1
                  exact absurd (hfu _ h2) (Nat.lt_irrefl _)
                · exact F.own.ud y hy g' h1 h2⟩
              have hb3 := F.b.trans bb
              clear hgr bb hrow hkz hzi rp
              refine hK.out _ _ J (fun _ => ?_)
              clear hK K
              try simp only [Act.put, qA, qB, qC, qD, qE, qF]
              refine wpAnyH_take (i := 20) (v := .pointer (some ⟨g, 0, none⟩)) rfl (by kernel_rfl) (by kernel_rfl) (by kernel_rfl) (fun _ _ _ h => nomatch h.1) (.inl ⟨by rfl, fun V hV => by go_simp⟩) J ?_
              try simp only [Act.put, qA, qB, qC, qD, qE, qF]
              refine wpAnyH_take (i := 21) (v := .pointer (some ⟨g, 2, none⟩)) rfl (by kernel_rfl) (by kernel_rfl) (by kernel_rfl) (fun _ _ _ h => nomatch h.1) (.inl ⟨by rfl, fun V hV => by go_simp⟩) J ?_
              try simp only [Act.put, qA, qB, qC, qD, qE, qF]
              refine wpAnyH_ready (rs := [22]) (by kernel_rfl) (by simp) ?_
              refine AllReadyH.cons rfl (fun K hK => ?_) AllReadyH.nil
              try simp only [Act.put, qA, qB, qC, qD, qE, qF]
              have q0 : W3.cell? ⟨g, 2, none⟩ = some (.slice (some ⟨gP, 0, none⟩) m c) := kg3.cell 2
              have f0 := kg3.frozen 2
              go_simp
              clear q0 f0
              have n4 : But g W3 (W3.setCell ⟨g, 2, none⟩ (.slice A9 (m + 1) c9)) := (But.refl g W3).setCell (p := ⟨g, 2, none⟩) (.inl rfl) _
              have own4 := own3.kind n4 kg3 (by decide) (by decide)
              have kg4 := kg3.set_ 2 (.slice A9 (m + 1) c9)
              have hb4 := hb3.trans (n4.below _ hBg (Nat.le_trans hBV hb3.size))
              generalize W3.setCell ⟨g, 2, none⟩ (.slice A9 (m + 1) c9) = W4 at own4 kg4 hb4 ⊢
              refine hK.out _ _ J (fun _ => ?_)
              clear hK K
              try simp only [Act.put, qA, qB, qC, qD, qE, qF]
              refine wpAnyH_done (by kernel_rfl) ?_ _
              refine ⟨rfl, ?_⟩
              clear J
              go_wp2_with fail
              refine bodyPost_ret (results_tmp2 rfl _ _ _) rfl ?_
              have hnames : (insL pl ((⟨ti, x.1.i, [ti]⟩ : Pn), (some ⟨gi, 0, none⟩, 1)) L).map (·.1) = insL pl ⟨ti, x.1.i, [ti]⟩ P := by rw [ins_names, HPL.out.2.1]
              have hcn : cntT (insL pl ⟨ti, x.1.i, [ti]⟩ P) = cntT P + 1 := cnt_ins
              exact ⟨rfl, hb4, fun _ => ⟨Ua1, um1, uc1, A9, m + 1, c9, _, kg4, own4.tk (by rw [HZU.out]; exact HTL.out (by trivial)) hm7 (fun y hy => by
                have := cnt_le (P := insL pl ⟨ti, x.1.i, [ti]⟩ P) (x := y.1) (by rw [← hnames]; exact List.mem_map.2 ⟨y, hy, rfl⟩)
                omega) (by rw [thr_cnt, hnames]; omega), hnames.trans (by rw [HPE.out]), own4⟩⟩
            · try simp only [Act.put, qA, qB, qC, qD, qE, qF]
              go_simp
              obtain ⟨gi, egi⟩ : ∃ gi, gi = W0.heap.size := ⟨_, rfl⟩
              have kI := Blk.new_ W0 #[.int .i64 ti] 3 egi.symm
              have ba : Below W0.heap.size W0 (W0.alloc (.cells #[.int .i64 ti] 3)) := (Below.refl _ _).alloc (Nat.le_refl _) _
              have hgiB : B ≤ gi := by rw [egi]; exact hBW
              have hgiV : V.heap.size ≤ gi := by rw [egi]; omega
              have hfi : ∀ y ∈ L, ∀ g', ownT y = some g' → g' < gi := fun y hy g' e => by rw [egi]; exact (zo_at (F.own.q y hy) e).2
              have hfu : ∀ g', (Value.slice Ua1 um1 uc1).ownBlock = some g' → g' < gi := fun g' e => by rw [egi]; exact (zo_at F.own.u e).2
              have F := F.step ba hBW
              have hBW := Nat.le_trans hBW ba.size
              rw [← egi]
              generalize W0.alloc (.cells #[.int .i64 ti] 3) = W1 at F kI hBW ⊢
              clear egi ba
              refine hK.out _ _ J (fun _ => ?_)
              clear hK K
              try simp only [Act.put, qA, qB, qC, qD, qE, qF]
              refine wpAnyH_ready (rs := [14]) (by kernel_rfl) (by simp) ?_
              refine AllReadyH.cons rfl (fun K hK => ?_) AllReadyH.nil
              try simp only [Act.put, qA, qB, qC, qD, qE, qF]
              obtain ⟨b7, off7, he7, hb7, hc7⟩ := F.own.p.rs p HPL.out.1
              cases he7
              rw [HX.out, Nat.zero_add] at hc7
              have qq := hc7 0 _ rfl
              rw [Nat.add_zero] at qq
              change _ = some (Value.int .i64 x.1.i) at qq
              go_simp
              clear qq hc7 hb7
              refine hK.out _ _ J (fun _ => ?_)
              clear hK K
              try simp only [Act.put, qA, qB, qC, qD, qE, qF]
              refine wpAnyH_take (i := 17) (v := .agg #[.int .i64 ti, .int .i64 x.1.i, .slice (some ⟨gi, 0, none⟩) 1 1]) rfl (by kernel_rfl) (by kernel_rfl) (by kernel_rfl) (fun _ _ _ h => nomatch h.1) (.inl ⟨by rfl, fun V hV => by go_simp⟩) J ?_
              try simp only [Act.put, qA, qB, qC, qD, qE, qF]
              refine wpAnyH_ready (rs := [18]) (by kernel_rfl) (by simp) ?_
              refine AllReadyH.cons rfl (fun K hK => ?_) AllReadyH.nil
              try simp only [Act.put, qA, qB, qC, qD, qE, qF]
              go_simp
              obtain ⟨gp, egp⟩ : ∃ gp, gp = W1.heap.size := ⟨_, rfl⟩
              have kP := Blk.new_ W1 (prC ((⟨ti, x.1.i, [ti]⟩ : Pn), (some ⟨gi, 0, none⟩, 1))) 49 egp.symm
              have ba : Below W1.heap.size W1 (W1.alloc (.cells (prC ((⟨ti, x.1.i, [ti]⟩ : Pn), (some ⟨gi, 0, none⟩, 1))) 49)) := (Below.refl _ _).alloc (Nat.le_refl _) _
              have hgpP : ∀ g', (Value.slice (some ⟨gP, 0, none⟩) m c).ownBlock = some g' → gp ≠ g' := fun g' e => by
                obtain ⟨cur, k⟩ := roP_blk F.own.p e
                have := k.lt
                rw [egp]; omega
              have F := F.step ba hBW
              have kI := kI.below ba kI.lt
              have hBW := Nat.le_trans hBW ba.size
              rw [← egp]
              show K _ (W1.alloc (.cells (prC ((⟨ti, x.1.i, [ti]⟩ : Pn), (some ⟨gi, 0, none⟩, 1))) 49))
              generalize W1.alloc (.cells (prC ((⟨ti, x.1.i, [ti]⟩ : Pn), (some ⟨gi, 0, none⟩, 1))) 49) = W2 at F kI kP hBW ⊢
              clear egp ba
              refine hK.out _ _ J (fun _ => ?_)
              clear hK K
              try simp only [Act.put, qA, qB, qC, qD, qE, qF]
              refine wpAnyH_ready (rs := [19]) (by kernel_rfl) (by simp) ?_
              refine AllReadyH.cons rfl (fun K hK => ?_) AllReadyH.nil
              try simp only [Act.put, qA, qB, qC, qD, qE, qF]
              go_simp
              refine (insert_P B (some ⟨gP, 0, none⟩) m c pl L ((⟨ti, x.1.i, [ti]⟩ : Pn), (some ⟨gi, 0, none⟩, 1)) gp W2 F.own.p kP.blk hgpP hm7 hBW hle).mono ?_
              rintro e W3 ⟨A9, c9, rfl, rp, hgr, bb⟩
              go_wp2_with fail
              have hrow : ∀ g', (Value.slice (some ⟨gP, 0, none⟩) m c).ownBlock = some g' → ∃ cs t, Blk W2 g' cs t ∧ t = 49 := fun g' e => by obtain ⟨cur, k⟩ := roP_blk F.own.p e; exact ⟨cur, _, k, rfl⟩
              have hkz : ∀ {A m c l}, Zo W2 B A m c l → Zo W3 B A m c l := fun h => own_kind h hgr (fun g' e => by obtain ⟨cs, t, k, rfl⟩ := hrow g' e; exact ⟨cs, _, k, by decide⟩)
              have kg3 : Blk W3 g (tkC ta Ua1 um1 uc1 (some ⟨gP, 0, none⟩) m c) 27 := ⟨(hgr.block g F.kg.lt (fun e => by
                obtain ⟨cs, t, k, rfl⟩ := hrow g e.symm
                exact absurd (blk_kind k F.kg) (by decide))).trans F.kg.blk⟩
              have hzi : Zo W3 B (some ⟨gi, 0, none⟩) 1 1 [ti] := hkz (zo_block hgiB kI.blk (Nat.le_refl _) (by simp [maxLen]) rfl rfl rfl)
              have own3 : OwnT W3 B Ua1 um1 uc1 tl A9 (m + 1) c9 (insL pl ((⟨ti, x.1.i, [ti]⟩ : Pn), (some ⟨gi, 0, none⟩, 1)) L) := ⟨hkz F.own.u, rp, fun y hy => by
                rcases mem_insP7.1 hy with rfl | hy
                · exact hzi
                · exact hkz (F.own.q y hy), qd_iff.2 (ap_ins (qd_iff.1 F.own.qd) (fun y hy g' h1 h2 => by
                  cases h1
                  exact absurd (hfi y hy _ h2) (Nat.lt_irrefl _))), fun y hy g' h1 h2 => by
                rcases mem_insP7.1 hy with rfl | hy
                · cases h1
                  exact absurd (hfu _ h2) (Nat.lt_irrefl _)
                · exact F.own.ud y hy g' h1 h2⟩
              have hb3 := F.b.trans bb
              clear hgr bb hrow hkz hzi rp
              refine hK.out _ _ J (fun _ => ?_)
              clear hK K
              try simp only [Act.put, qA, qB, qC, qD, qE, qF]
              refine wpAnyH_take (i := 20) (v := .pointer (some ⟨g, 0, none⟩)) rfl (by kernel_rfl) (by kernel_rfl) (by kernel_rfl) (fun _ _ _ h => nomatch h.1) (.inl ⟨by rfl, fun V hV => by go_simp⟩) J ?_
              try simp only [Act.put, qA, qB, qC, qD, qE, qF]
              refine wpAnyH_take (i := 21) (v := .pointer (some ⟨g, 2, none⟩)) rfl (by kernel_rfl) (by kernel_rfl) (by kernel_rfl) (fun _ _ _ h => nomatch h.1) (.inl ⟨by rfl, fun V hV => by go_simp⟩) J ?_
              try simp only [Act.put, qA, qB, qC, qD, qE, qF]
              refine wpAnyH_ready (rs := [22]) (by kernel_rfl) (by simp) ?_
              refine AllReadyH.cons rfl (fun K hK => ?_) AllReadyH.nil
              try simp only [Act.put, qA, qB, qC, qD, qE, qF]
              have q0 : W3.cell? ⟨g, 2, none⟩ = some (.slice (some ⟨gP, 0, none⟩) m c) := kg3.cell 2
              have f0 := kg3.frozen 2
              go_simp
              clear q0 f0
              have n4 : But g W3 (W3.setCell ⟨g, 2, none⟩ (.slice A9 (m + 1) c9)) := (But.refl g W3).setCell (p := ⟨g, 2, none⟩) (.inl rfl) _
              have own4 := own3.kind n4 kg3 (by decide) (by decide)
              have kg4 := kg3.set_ 2 (.slice A9 (m + 1) c9)
              have hb4 := hb3.trans (n4.below _ hBg (Nat.le_trans hBV hb3.size))
              generalize W3.setCell ⟨g, 2, none⟩ (.slice A9 (m + 1) c9) = W4 at own4 kg4 hb4 ⊢
              refine hK.out _ _ J (fun _ => ?_)
              clear hK K
              try simp only [Act.put, qA, qB, qC, qD, qE, qF]
              refine wpAnyH_done (by kernel_rfl) ?_ _
              refine ⟨rfl, ?_⟩
              clear J
              go_wp2_with fail
              refine bodyPost_ret (results_tmp2 rfl _ _ _) rfl ?_
              have hnames : (insL pl ((⟨ti, x.1.i, [ti]⟩ : Pn), (some ⟨gi, 0, none⟩, 1)) L).map (·.1) = insL pl ⟨ti, x.1.i, [ti]⟩ P := by rw [ins_names, HPL.out.2.1]
              have hcn : cntT (insL pl ⟨ti, x.1.i, [ti]⟩ P) = cntT P + 1 := cnt_ins
              exact ⟨rfl, hb4, fun _ => ⟨Ua1, um1, uc1, A9, m + 1, c9, _, kg4, own4.tk (by rw [HZU.out]; exact HTL.out (by trivial)) hm7 (fun y hy => by
                have := cnt_le (P := insL pl ⟨ti, x.1.i, [ti]⟩ P) (x := y.1) (by rw [← hnames]; exact List.mem_map.2 ⟨y, hy, rfl⟩)
                omega) (by rw [thr_cnt, hnames]; omega), hnames.trans (by rw [HPE.out]), own4⟩⟩
          · try simp only [Act.put, qA, qB, qC, qD, qE, qF]
            obtain ⟨b7, off7, he7, hb7, hc7⟩ := F.own.p.rs p HPL.out.1
            cases he7
            rw [HX.out, Nat.zero_add] at hc7
            have qq := hc7 0 _ rfl
            rw [Nat.add_zero] at qq
            change _ = some (Value.int .i64 x.1.i) at qq
            go_simp
            clear qq hc7 hb7
            refine hK.out _ _ J (fun _ => ?_)
            clear hK K
            try simp only [Act.put, qA, qB, qC, qD, qE, qF]
            refine wpAnyH_ready (rs := [4, 16]) (by kernel_rfl) (by simp) ?_
            refine AllReadyH.cons rfl (fun K hK => ?_) (AllReadyH.cons rfl (fun K hK => ?_) AllReadyH.nil)
            · try simp only [Act.put, qA, qB, qC, qD, qE, qF]
              have qq := F.kg.cell 2
              change _ = some (Value.slice (some ⟨gP, 0, none⟩) m c) at qq
              go_simp
              clear qq
              refine hK.out _ _ J (fun _ => ?_)
              clear hK K
              try simp only [Act.put, qA, qB, qC, qD, qE, qF]
              refine wpAnyH_ready (rs := [16]) (by kernel_rfl) (by simp) ?_
              refine AllReadyH.cons rfl (fun K hK => ?_) AllReadyH.nil
              try simp only [Act.put, qA, qB, qC, qD, qE, qF]
              go_simp
              obtain ⟨gi, egi⟩ : ∃ gi, gi = W0.heap.size := ⟨_, rfl⟩
              have kI := Blk.new_ W0 #[.int .i64 ti] 3 egi.symm
              have ba : Below W0.heap.size W0 (W0.alloc (.cells #[.int .i64 ti] 3)) := (Below.refl _ _).alloc (Nat.le_refl _) _
              have hgiB : B ≤ gi := by rw [egi]; exact hBW
              have hgiV : V.heap.size ≤ gi := by rw [egi]; omega
              have hfi : ∀ y ∈ L, ∀ g', ownT y = some g' → g' < gi := fun y hy g' e => by rw [egi]; exact (zo_at (F.own.q y hy) e).2
              have hfu : ∀ g', (Value.slice Ua1 um1 uc1).ownBlock = some g' → g' < gi := fun g' e => by rw [egi]; exact (zo_at F.own.u e).2
              have F := F.step ba hBW
              have hBW := Nat.le_trans hBW ba.size
              rw [← egi]
              generalize W0.alloc (.cells #[.int .i64 ti] 3) = W1 at F kI hBW ⊢
              clear egi ba
              refine hK.out _ _ J (fun _ => ?_)
              clear hK K
              try simp only [Act.put, qA, qB, qC, qD, qE, qF]
              refine wpAnyH_take (i := 17) (v := .agg #[.int .i64 ti, .int .i64 x.1.i, .slice (some ⟨gi, 0, none⟩) 1 1]) rfl (by kernel_rfl) (by kernel_rfl) (by kernel_rfl) (fun _ _ _ h => nomatch h.1) (.inl ⟨by rfl, fun V hV => by go_simp⟩) J ?_
              try simp only [Act.put, qA, qB, qC, qD, qE, qF]
              refine wpAnyH_ready (rs := [18]) (by kernel_rfl) (by simp) ?_
              refine AllReadyH.cons rfl (fun K hK => ?_) AllReadyH.nil
              try simp only [Act.put, qA, qB, qC, qD, qE, qF]
              go_simp
              obtain ⟨gp, egp⟩ : ∃ gp, gp = W1.heap.size := ⟨_, rfl⟩
              have kP := Blk.new_ W1 (prC ((⟨ti, x.1.i, [ti]⟩ : Pn), (some ⟨gi, 0, none⟩, 1))) 49 egp.symm
              have ba : Below W1.heap.size W1 (W1.alloc (.cells (prC ((⟨ti, x.1.i, [ti]⟩ : Pn), (some ⟨gi, 0, none⟩, 1))) 49)) := (Below.refl _ _).alloc (Nat.le_refl _) _
              have hgpP : ∀ g', (Value.slice (some ⟨gP, 0, none⟩) m c).ownBlock = some g' → gp ≠ g' := fun g' e => by
                obtain ⟨cur, k⟩ := roP_blk F.own.p e
                have := k.lt
                rw [egp]; omega
              have F := F.step ba hBW
              have kI := kI.below ba kI.lt
              have hBW := Nat.le_trans hBW ba.size
              rw [← egp]
              show K _ (W1.alloc (.cells (prC ((⟨ti, x.1.i, [ti]⟩ : Pn), (some ⟨gi, 0, none⟩, 1))) 49))
              generalize W1.alloc (.cells (prC ((⟨ti, x.1.i, [ti]⟩ : Pn), (some ⟨gi, 0, none⟩, 1))) 49) = W2 at F kI kP hBW ⊢
              clear egp ba
              refine hK.out _ _ J (fun _ => ?_)
              clear hK K
              try simp only [Act.put, qA, qB, qC, qD, qE, qF]
              refine wpAnyH_ready (rs := [19]) (by kernel_rfl) (by simp) ?_
              refine AllReadyH.cons rfl (fun K hK => ?_) AllReadyH.nil
              try simp only [Act.put, qA, qB, qC, qD, qE, qF]
              go_simp
              refine (insert_P B (some ⟨gP, 0, none⟩) m c pl L ((⟨ti, x.1.i, [ti]⟩ : Pn), (some ⟨gi, 0, none⟩, 1)) gp W2 F.own.p kP.blk hgpP hm7 hBW hle).mono ?_
              rintro e W3 ⟨A9, c9, rfl, rp, hgr, bb⟩
              go_wp2_with fail
              have hrow : ∀ g', (Value.slice (some ⟨gP, 0, none⟩) m c).ownBlock = some g' → ∃ cs t, Blk W2 g' cs t ∧ t = 49 := fun g' e => by obtain ⟨cur, k⟩ := roP_blk F.own.p e; exact ⟨cur, _, k, rfl⟩
              have hkz : ∀ {A m c l}, Zo W2 B A m c l → Zo W3 B A m c l := fun h => own_kind h hgr (fun g' e => by obtain ⟨cs, t, k, rfl⟩ := hrow g' e; exact ⟨cs, _, k, by decide⟩)
              have kg3 : Blk W3 g (tkC ta Ua1 um1 uc1 (some ⟨gP, 0, none⟩) m c) 27 := ⟨(hgr.block g F.kg.lt (fun e => by
                obtain ⟨cs, t, k, rfl⟩ := hrow g e.symm
                exact absurd (blk_kind k F.kg) (by decide))).trans F.kg.blk⟩
              have hzi : Zo W3 B (some ⟨gi, 0, none⟩) 1 1 [ti] := hkz (zo_block hgiB kI.blk (Nat.le_refl _) (by simp [maxLen]) rfl rfl rfl)
              have own3 : OwnT W3 B Ua1 um1 uc1 tl A9 (m + 1) c9 (insL pl ((⟨ti, x.1.i, [ti]⟩ : Pn), (some ⟨gi, 0, none⟩, 1)) L) := ⟨hkz F.own.u, rp, fun y hy => by
                rcases mem_insP7.1 hy with rfl | hy
                · exact hzi
                · exact hkz (F.own.q y hy), qd_iff.2 (ap_ins (qd_iff.1 F.own.qd) (fun y hy g' h1 h2 => by
                  cases h1
                  exact absurd (hfi y hy _ h2) (Nat.lt_irrefl _))), fun y hy g' h1 h2 => by
                rcases mem_insP7.1 hy with rfl | hy
                · cases h1
                  exact absurd (hfu _ h2) (Nat.lt_irrefl _)
                · exact F.own.ud y hy g' h1 h2⟩
              have hb3 := F.b.trans bb
              clear hgr bb hrow hkz hzi rp
              refine hK.out _ _ J (fun _ => ?_)
              clear hK K
              try simp only [Act.put, qA, qB, qC, qD, qE, qF]
              refine wpAnyH_take (i := 20) (v := .pointer (some ⟨g, 0, none⟩)) rfl (by kernel_rfl) (by kernel_rfl) (by kernel_rfl) (fun _ _ _ h => nomatch h.1) (.inl ⟨by rfl, fun V hV => by go_simp⟩) J ?_
              try simp only [Act.put, qA, qB, qC, qD, qE, qF]
              refine wpAnyH_take (i := 21) (v := .pointer (some ⟨g, 2, none⟩)) rfl (by kernel_rfl) (by kernel_rfl) (by kernel_rfl) (fun _ _ _ h => nomatch h.1) (.inl ⟨by rfl, fun V hV => by go_simp⟩) J ?_
              try simp only [Act.put, qA, qB, qC, qD, qE, qF]
              refine wpAnyH_ready (rs := [22]) (by kernel_rfl) (by simp) ?_
              refine AllReadyH.cons rfl (fun K hK => ?_) AllReadyH.nil
              try simp only [Act.put, qA, qB, qC, qD, qE, qF]
              have q0 : W3.cell? ⟨g, 2, none⟩ = some (.slice (some ⟨gP, 0, none⟩) m c) := kg3.cell 2
              have f0 := kg3.frozen 2
              go_simp
              clear q0 f0
              have n4 : But g W3 (W3.setCell ⟨g, 2, none⟩ (.slice A9 (m + 1) c9)) := (But.refl g W3).setCell (p := ⟨g, 2, none⟩) (.inl rfl) _
              have own4 := own3.kind n4 kg3 (by decide) (by decide)
              have kg4 := kg3.set_ 2 (.slice A9 (m + 1) c9)
              have hb4 := hb3.trans (n4.below _ hBg (Nat.le_trans hBV hb3.size))
              generalize W3.setCell ⟨g, 2, none⟩ (.slice A9 (m + 1) c9) = W4 at own4 kg4 hb4 ⊢
              refine hK.out _ _ J (fun _ => ?_)
              clear hK K
              try simp only [Act.put, qA, qB, qC, qD, qE, qF]
              refine wpAnyH_done (by kernel_rfl) ?_ _
              refine ⟨rfl, ?_⟩
              clear J
              go_wp2_with fail
              refine bodyPost_ret (results_tmp2 rfl _ _ _) rfl ?_
              have hnames : (insL pl ((⟨ti, x.1.i, [ti]⟩ : Pn), (some ⟨gi, 0, none⟩, 1)) L).map (·.1) = insL pl ⟨ti, x.1.i, [ti]⟩ P := by rw [ins_names, HPL.out.2.1]
              have hcn : cntT (insL pl ⟨ti, x.1.i, [ti]⟩ P) = cntT P + 1 := cnt_ins
              exact ⟨rfl, hb4, fun _ => ⟨Ua1, um1, uc1, A9, m + 1, c9, _, kg4, own4.tk (by rw [HZU.out]; exact HTL.out (by trivial)) hm7 (fun y hy => by
                have := cnt_le (P := insL pl ⟨ti, x.1.i, [ti]⟩ P) (x := y.1) (by rw [← hnames]; exact List.mem_map.2 ⟨y, hy, rfl⟩)
                omega) (by rw [thr_cnt, hnames]; omega), hnames.trans (by rw [HPE.out]), own4⟩⟩
            · try simp only [Act.put, qA, qB, qC, qD, qE, qF]
              go_simp
              obtain ⟨gi, egi⟩ : ∃ gi, gi = W0.heap.size := ⟨_, rfl⟩
              have kI := Blk.new_ W0 #[.int .i64 ti] 3 egi.symm
              have ba : Below W0.heap.size W0 (W0.alloc (.cells #[.int .i64 ti] 3)) := (Below.refl _ _).alloc (Nat.le_refl _) _
              have hgiB : B ≤ gi := by rw [egi]; exact hBW
              have hgiV : V.heap.size ≤ gi := by rw [egi]; omega
              have hfi : ∀ y ∈ L, ∀ g', ownT y = some g' → g' < gi := fun y hy g' e => by rw [egi]; exact (zo_at (F.own.q y hy) e).2
              have hfu : ∀ g', (Value.slice Ua1 um1 uc1).ownBlock = some g' → g' < gi := fun g' e => by rw [egi]; exact (zo_at F.own.u e).2
              have F := F.step ba hBW
              have hBW := Nat.le_trans hBW ba.size
              rw [← egi]
              generalize W0.alloc (.cells #[.int .i64 ti] 3) = W1 at F kI hBW ⊢
              clear egi ba
              refine hK.out _ _ J (fun _ => ?_)
              clear hK K
              try simp only [Act.put, qA, qB, qC, qD, qE, qF]
              refine wpAnyH_take (i := 17) (v := .agg #[.int .i64 ti, .int .i64 x.1.i, .slice (some ⟨gi, 0, none⟩) 1 1]) rfl (by kernel_rfl) (by kernel_rfl) (by kernel_rfl) (fun _ _ _ h => nomatch h.1) (.inl ⟨by rfl, fun V hV => by go_simp⟩) J ?_
              try simp only [Act.put, qA, qB, qC, qD, qE, qF]
              refine wpAnyH_ready (rs := [4, 18]) (by kernel_rfl) (by simp) ?_
              refine AllReadyH.cons rfl (fun K hK => ?_) (AllReadyH.cons rfl (fun K hK => ?_) AllReadyH.nil)
              · try simp only [Act.put, qA, qB, qC, qD, qE, qF]
                have qq := F.kg.cell 2
                change _ = some (Value.slice (some ⟨gP, 0, none⟩) m c) at qq
                go_simp
                clear qq
                refine hK.out _ _ J (fun _ => ?_)
                clear hK K
                try simp only [Act.put, qA, qB, qC, qD, qE, qF]
                refine wpAnyH_ready (rs := [18]) (by kernel_rfl) (by simp) ?_
                refine AllReadyH.cons rfl (fun K hK => ?_) AllReadyH.nil
                try simp only [Act.put, qA, qB, qC, qD, qE, qF]
                go_simp
                obtain ⟨gp, egp⟩ : ∃ gp, gp = W1.heap.size := ⟨_, rfl⟩
                have kP := Blk.new_ W1 (prC ((⟨ti, x.1.i, [ti]⟩ : Pn), (some ⟨gi, 0, none⟩, 1))) 49 egp.symm
                have ba : Below W1.heap.size W1 (W1.alloc (.cells (prC ((⟨ti, x.1.i, [ti]⟩ : Pn), (some ⟨gi, 0, none⟩, 1))) 49)) := (Below.refl _ _).alloc (Nat.le_refl _) _
                have hgpP : ∀ g', (Value.slice (some ⟨gP, 0, none⟩) m c).ownBlock = some g' → gp ≠ g' := fun g' e => by
                  obtain ⟨cur, k⟩ := roP_blk F.own.p e
                  have := k.lt
                  rw [egp]; omega
                have F := F.step ba hBW
                have kI := kI.below ba kI.lt
                have hBW := Nat.le_trans hBW ba.size
                rw [← egp]
                show K _ (W1.alloc (.cells (prC ((⟨ti, x.1.i, [ti]⟩ : Pn), (some ⟨gi, 0, none⟩, 1))) 49))
                generalize W1.alloc (.cells (prC ((⟨ti, x.1.i, [ti]⟩ : Pn), (some ⟨gi, 0, none⟩, 1))) 49) = W2 at F kI kP hBW ⊢
                clear egp ba
                refine hK.out _ _ J (fun _ => ?_)
                clear hK K
                try simp only [Act.put, qA, qB, qC, qD, qE, qF]
                refine wpAnyH_ready (rs := [19]) (by kernel_rfl) (by simp) ?_
                refine AllReadyH.cons rfl (fun K hK => ?_) AllReadyH.nil
                try simp only [Act.put, qA, qB, qC, qD, qE, qF]
                go_simp
                refine (insert_P B (some ⟨gP, 0, none⟩) m c pl L ((⟨ti, x.1.i, [ti]⟩ : Pn), (some ⟨gi, 0, none⟩, 1)) gp W2 F.own.p kP.blk hgpP hm7 hBW hle).mono ?_
                rintro e W3 ⟨A9, c9, rfl, rp, hgr, bb⟩
                go_wp2_with fail
                have hrow : ∀ g', (Value.slice (some ⟨gP, 0, none⟩) m c).ownBlock = some g' → ∃ cs t, Blk W2 g' cs t ∧ t = 49 := fun g' e => by obtain ⟨cur, k⟩ := roP_blk F.own.p e; exact ⟨cur, _, k, rfl⟩
                have hkz : ∀ {A m c l}, Zo W2 B A m c l → Zo W3 B A m c l := fun h => own_kind h hgr (fun g' e => by obtain ⟨cs, t, k, rfl⟩ := hrow g' e; exact ⟨cs, _, k, by decide⟩)
                have kg3 : Blk W3 g (tkC ta Ua1 um1 uc1 (some ⟨gP, 0, none⟩) m c) 27 := ⟨(hgr.block g F.kg.lt (fun e => by
                  obtain ⟨cs, t, k, rfl⟩ := hrow g e.symm
                  exact absurd (blk_kind k F.kg) (by decide))).trans F.kg.blk⟩
                have hzi : Zo W3 B (some ⟨gi, 0, none⟩) 1 1 [ti] := hkz (zo_block hgiB kI.blk (Nat.le_refl _) (by simp [maxLen]) rfl rfl rfl)
                have own3 : OwnT W3 B Ua1 um1 uc1 tl A9 (m + 1) c9 (insL pl ((⟨ti, x.1.i, [ti]⟩ : Pn), (some ⟨gi, 0, none⟩, 1)) L) := ⟨hkz F.own.u, rp, fun y hy => by
                  rcases mem_insP7.1 hy with rfl | hy
                  · exact hzi
                  · exact hkz (F.own.q y hy), qd_iff.2 (ap_ins (qd_iff.1 F.own.qd) (fun y hy g' h1 h2 => by
                    cases h1
                    exact absurd (hfi y hy _ h2) (Nat.lt_irrefl _))), fun y hy g' h1 h2 => by
                  rcases mem_insP7.1 hy with rfl | hy
                  · cases h1
                    exact absurd (hfu _ h2) (Nat.lt_irrefl _)
                  · exact F.own.ud y hy g' h1 h2⟩
                have hb3 := F.b.trans bb
                clear hgr bb hrow hkz hzi rp
                refine hK.out _ _ J (fun _ => ?_)
                clear hK K
                try simp only [Act.put, qA, qB, qC, qD, qE, qF]
                refine wpAnyH_take (i := 20) (v := .pointer (some ⟨g, 0, none⟩)) rfl (by kernel_rfl) (by kernel_rfl) (by kernel_rfl) (fun _ _ _ h => nomatch h.1) (.inl ⟨by rfl, fun V hV => by go_simp⟩) J ?_
                try simp only [Act.put, qA, qB, qC, qD, qE, qF]
                refine wpAnyH_take (i := 21) (v := .pointer (some ⟨g, 2, none⟩)) rfl (by kernel_rfl) (by kernel_rfl) (by kernel_rfl) (fun _ _ _ h => nomatch h.1) (.inl ⟨by rfl, fun V hV => by go_simp⟩) J ?_
                try simp only [Act.put, qA, qB, qC, qD, qE, qF]
                refine wpAnyH_ready (rs := [22]) (by kernel_rfl) (by simp) ?_
                refine AllReadyH.cons rfl (fun K hK => ?_) AllReadyH.nil
                try simp only [Act.put, qA, qB, qC, qD, qE, qF]
                have q0 : W3.cell? ⟨g, 2, none⟩ = some (.slice (some ⟨gP, 0, none⟩) m c) := kg3.cell 2
                have f0 := kg3.frozen 2
                go_simp
                clear q0 f0
                have n4 : But g W3 (W3.setCell ⟨g, 2, none⟩ (.slice A9 (m + 1) c9)) := (But.refl g W3).setCell (p := ⟨g, 2, none⟩) (.inl rfl) _
                have own4 := own3.kind n4 kg3 (by decide) (by decide)
                have kg4 := kg3.set_ 2 (.slice A9 (m + 1) c9)
                have hb4 := hb3.trans (n4.below _ hBg (Nat.le_trans hBV hb3.size))
                generalize W3.setCell ⟨g, 2, none⟩ (.slice A9 (m + 1) c9) = W4 at own4 kg4 hb4 ⊢
                refine hK.out _ _ J (fun _ => ?_)
                clear hK K
                try simp only [Act.put, qA, qB, qC, qD, qE, qF]
                refine wpAnyH_done (by kernel_rfl) ?_ _
                refine ⟨rfl, ?_⟩
                clear J
                go_wp2_with fail
                refine bodyPost_ret (results_tmp2 rfl _ _ _) rfl ?_
                have hnames : (insL pl ((⟨ti, x.1.i, [ti]⟩ : Pn), (some ⟨gi, 0, none⟩, 1)) L).map (·.1) = insL pl ⟨ti, x.1.i, [ti]⟩ P := by rw [ins_names, HPL.out.2.1]
                have hcn : cntT (insL pl ⟨ti, x.1.i, [ti]⟩ P) = cntT P + 1 := cnt_ins
                exact ⟨rfl, hb4, fun _ => ⟨Ua1, um1, uc1, A9, m + 1, c9, _, kg4, own4.tk (by rw [HZU.out]; exact HTL.out (by trivial)) hm7 (fun y hy => by
                  have := cnt_le (P := insL pl ⟨ti, x.1.i, [ti]⟩ P) (x := y.1) (by rw [← hnames]; exact List.mem_map.2 ⟨y, hy, rfl⟩)
                  omega) (by rw [thr_cnt, hnames]; omega), hnames.trans (by rw [HPE.out]), own4⟩⟩
              · try simp only [Act.put, qA, qB, qC, qD, qE, qF]
                go_simp
                obtain ⟨gp, egp⟩ : ∃ gp, gp = W1.heap.size := ⟨_, rfl⟩
                have kP := Blk.new_ W1 (prC ((⟨ti, x.1.i, [ti]⟩ : Pn), (some ⟨gi, 0, none⟩, 1))) 49 egp.symm
                have ba : Below W1.heap.size W1 (W1.alloc (.cells (prC ((⟨ti, x.1.i, [ti]⟩ : Pn), (some ⟨gi, 0, none⟩, 1))) 49)) := (Below.refl _ _).alloc (Nat.le_refl _) _
                have hgpP : ∀ g', (Value.slice (some ⟨gP, 0, none⟩) m c).ownBlock = some g' → gp ≠ g' := fun g' e => by
                  obtain ⟨cur, k⟩ := roP_blk F.own.p e
                  have := k.lt
                  rw [egp]; omega
                have F := F.step ba hBW
                have kI := kI.below ba kI.lt
                have hBW := Nat.le_trans hBW ba.size
                rw [← egp]
                show K _ (W1.alloc (.cells (prC ((⟨ti, x.1.i, [ti]⟩ : Pn), (some ⟨gi, 0, none⟩, 1))) 49))
                generalize W1.alloc (.cells (prC ((⟨ti, x.1.i, [ti]⟩ : Pn), (some ⟨gi, 0, none⟩, 1))) 49) = W2 at F kI kP hBW ⊢
                clear egp ba
                refine hK.out _ _ J (fun _ => ?_)
                clear hK K
                try simp only [Act.put, qA, qB, qC, qD, qE, qF]
                refine wpAnyH_ready (rs := [4]) (by kernel_rfl) (by simp) ?_
                refine AllReadyH.cons rfl (fun K hK => ?_) AllReadyH.nil
                try simp only [Act.put, qA, qB, qC, qD, qE, qF]
                have qq := F.kg.cell 2
                change _ = some (Value.slice (some ⟨gP, 0, none⟩) m c) at qq
                go_simp
                clear qq
                refine hK.out _ _ J (fun _ => ?_)
                clear hK K
                try simp only [Act.put, qA, qB, qC, qD, qE, qF]
                refine wpAnyH_ready (rs := [19]) (by kernel_rfl) (by simp) ?_
                refine AllReadyH.cons rfl (fun K hK => ?_) AllReadyH.nil
                try simp only [Act.put, qA, qB, qC, qD, qE, qF]
                go_simp
                refine (insert_P B (some ⟨gP, 0, none⟩) m c pl L ((⟨ti, x.1.i, [ti]⟩ : Pn), (some ⟨gi, 0, none⟩, 1)) gp W2 F.own.p kP.blk hgpP hm7 hBW hle).mono ?_
                rintro e W3 ⟨A9, c9, rfl, rp, hgr, bb⟩
                go_wp2_with fail
                have hrow : ∀ g', (Value.slice (some ⟨gP, 0, none⟩) m c).ownBlock = some g' → ∃ cs t, Blk W2 g' cs t ∧ t = 49 := fun g' e => by obtain ⟨cur, k⟩ := roP_blk F.own.p e; exact ⟨cur, _, k, rfl⟩
                have hkz : ∀ {A m c l}, Zo W2 B A m c l → Zo W3 B A m c l := fun h => own_kind h hgr (fun g' e => by obtain ⟨cs, t, k, rfl⟩ := hrow g' e; exact ⟨cs, _, k, by decide⟩)
                have kg3 : Blk W3 g (tkC ta Ua1 um1 uc1 (some ⟨gP, 0, none⟩) m c) 27 := ⟨(hgr.block g F.kg.lt (fun e => by
                  obtain ⟨cs, t, k, rfl⟩ := hrow g e.symm
                  exact absurd (blk_kind k F.kg) (by decide))).trans F.kg.blk⟩
                have hzi : Zo W3 B (some ⟨gi, 0, none⟩) 1 1 [ti] := hkz (zo_block hgiB kI.blk (Nat.le_refl _) (by simp [maxLen]) rfl rfl rfl)
                have own3 : OwnT W3 B Ua1 um1 uc1 tl A9 (m + 1) c9 (insL pl ((⟨ti, x.1.i, [ti]⟩ : Pn), (some ⟨gi, 0, none⟩, 1)) L) := ⟨hkz F.own.u, rp, fun y hy => by
                  rcases mem_insP7.1 hy with rfl | hy
                  · exact hzi
                  · exact hkz (F.own.q y hy), qd_iff.2 (ap_ins (qd_iff.1 F.own.qd) (fun y hy g' h1 h2 => by
                    cases h1
                    exact absurd (hfi y hy _ h2) (Nat.lt_irrefl _))), fun y hy g' h1 h2 => by
                  rcases mem_insP7.1 hy with rfl | hy
                  · cases h1
                    exact absurd (hfu _ h2) (Nat.lt_irrefl _)
                  · exact F.own.ud y hy g' h1 h2⟩
                have hb3 := F.b.trans bb
                clear hgr bb hrow hkz hzi rp
                refine hK.out _ _ J (fun _ => ?_)
                clear hK K
                try simp only [Act.put, qA, qB, qC, qD, qE, qF]
                refine wpAnyH_take (i := 20) (v := .pointer (some ⟨g, 0, none⟩)) rfl (by kernel_rfl) (by kernel_rfl) (by kernel_rfl) (fun _ _ _ h => nomatch h.1) (.inl ⟨by rfl, fun V hV => by go_simp⟩) J ?_
                try simp only [Act.put, qA, qB, qC, qD, qE, qF]
                refine wpAnyH_take (i := 21) (v := .pointer (some ⟨g, 2, none⟩)) rfl (by kernel_rfl) (by kernel_rfl) (by kernel_rfl) (fun _ _ _ h => nomatch h.1) (.inl ⟨by rfl, fun V hV => by go_simp⟩) J ?_
                try simp only [Act.put, qA, qB, qC, qD, qE, qF]
                refine wpAnyH_ready (rs := [22]) (by kernel_rfl) (by simp) ?_
                refine AllReadyH.cons rfl (fun K hK => ?_) AllReadyH.nil
                try simp only [Act.put, qA, qB, qC, qD, qE, qF]
                have q0 : W3.cell? ⟨g, 2, none⟩ = some (.slice (some ⟨gP, 0, none⟩) m c) := kg3.cell 2
                have f0 := kg3.frozen 2
                go_simp
                clear q0 f0
                have n4 : But g W3 (W3.setCell ⟨g, 2, none⟩ (.slice A9 (m + 1) c9)) := (But.refl g W3).setCell (p := ⟨g, 2, none⟩) (.inl rfl) _
                have own4 := own3.kind n4 kg3 (by decide) (by decide)
                have kg4 := kg3.set_ 2 (.slice A9 (m + 1) c9)
                have hb4 := hb3.trans (n4.below _ hBg (Nat.le_trans hBV hb3.size))
                generalize W3.setCell ⟨g, 2, none⟩ (.slice A9 (m + 1) c9) = W4 at own4 kg4 hb4 ⊢
                refine hK.out _ _ J (fun _ => ?_)
                clear hK K
                try simp only [Act.put, qA, qB, qC, qD, qE, qF]
                refine wpAnyH_done (by kernel_rfl) ?_ _
                refine ⟨rfl, ?_⟩
                clear J
                go_wp2_with fail
                refine bodyPost_ret (results_tmp2 rfl _ _ _) rfl ?_
                have hnames : (insL pl ((⟨ti, x.1.i, [ti]⟩ : Pn), (some ⟨gi, 0, none⟩, 1)) L).map (·.1) = insL pl ⟨ti, x.1.i, [ti]⟩ P := by rw [ins_names, HPL.out.2.1]
                have hcn : cntT (insL pl ⟨ti, x.1.i, [ti]⟩ P) = cntT P + 1 := cnt_ins
                exact ⟨rfl, hb4, fun _ => ⟨Ua1, um1, uc1, A9, m + 1, c9, _, kg4, own4.tk (by rw [HZU.out]; exact HTL.out (by trivial)) hm7 (fun y hy => by
                  have := cnt_le (P := insL pl ⟨ti, x.1.i, [ti]⟩ P) (x := y.1) (by rw [← hnames]; exact List.mem_map.2 ⟨y, hy, rfl⟩)
                  omega) (by rw [thr_cnt, hnames]; omega), hnames.trans (by rw [HPE.out]), own4⟩⟩
          · try simp only [Act.put, qA, qB, qC, qD, qE, qF]
            go_simp
            obtain ⟨gi, egi⟩ : ∃ gi, gi = W0.heap.size := ⟨_, rfl⟩
            have kI := Blk.new_ W0 #[.int .i64 ti] 3 egi.symm
            have ba : Below W0.heap.size W0 (W0.alloc (.cells #[.int .i64 ti] 3)) := (Below.refl _ _).alloc (Nat.le_refl _) _
            have hgiB : B ≤ gi := by rw [egi]; exact hBW
            have hgiV : V.heap.size ≤ gi := by rw [egi]; omega
            have hfi : ∀ y ∈ L, ∀ g', ownT y = some g' → g' < gi := fun y hy g' e => by rw [egi]; exact (zo_at (F.own.q y hy) e).2
            have hfu : ∀ g', (Value.slice Ua1 um1 uc1).ownBlock = some g' → g' < gi := fun g' e => by rw [egi]; exact (zo_at F.own.u e).2
            have F := F.step ba hBW
            have hBW := Nat.le_trans hBW ba.size
            rw [← egi]
            generalize W0.alloc (.cells #[.int .i64 ti] 3) = W1 at F kI hBW ⊢
            clear egi ba
            refine hK.out _ _ J (fun _ => ?_)
            clear hK K
            try simp only [Act.put, qA, qB, qC, qD, qE, qF]
            refine wpAnyH_ready (rs := [4, 14]) (by kernel_rfl) (by simp) ?_
            refine AllReadyH.cons rfl (fun K hK => ?_) (AllReadyH.cons rfl (fun K hK => ?_) AllReadyH.nil)
            · try simp only [Act.put, qA, qB, qC, qD, qE, qF]
              have qq := F.kg.cell 2
              change _ = some (Value.slice (some ⟨gP, 0, none⟩) m c) at qq
              go_simp
              clear qq
              refine hK.out _ _ J (fun _ => ?_)
              clear hK K
              try simp only [Act.put, qA, qB, qC, qD, qE, qF]
              refine wpAnyH_ready (rs := [14]) (by kernel_rfl) (by simp) ?_
              refine AllReadyH.cons rfl (fun K hK => ?_) AllReadyH.nil
              try simp only [Act.put, qA, qB, qC, qD, qE, qF]
              obtain ⟨b7, off7, he7, hb7, hc7⟩ := F.own.p.rs p HPL.out.1
              cases he7
              rw [HX.out, Nat.zero_add] at hc7
              have qq := hc7 0 _ rfl
              rw [Nat.add_zero] at qq
              change _ = some (Value.int .i64 x.1.i) at qq
              go_simp
              clear qq hc7 hb7
              refine hK.out _ _ J (fun _ => ?_)
              clear hK K
              try simp only [Act.put, qA, qB, qC, qD, qE, qF]
              refine wpAnyH_take (i := 17) (v := .agg #[.int .i64 ti, .int .i64 x.1.i, .slice (some ⟨gi, 0, none⟩) 1 1]) rfl (by kernel_rfl) (by kernel_rfl) (by kernel_rfl) (fun _ _ _ h => nomatch h.1) (.inl ⟨by rfl, fun V hV => by go_simp⟩) J ?_
              try simp only [Act.put, qA, qB, qC, qD, qE, qF]
              refine wpAnyH_ready (rs := [18]) (by kernel_rfl) (by simp) ?_
              refine AllReadyH.cons rfl (fun K hK => ?_) AllReadyH.nil
              try simp only [Act.put, qA, qB, qC, qD, qE, qF]
              go_simp
              obtain ⟨gp, egp⟩ : ∃ gp, gp = W1.heap.size := ⟨_, rfl⟩
              have kP := Blk.new_ W1 (prC ((⟨ti, x.1.i, [ti]⟩ : Pn), (some ⟨gi, 0, none⟩, 1))) 49 egp.symm
              have ba : Below W1.heap.size W1 (W1.alloc (.cells (prC ((⟨ti, x.1.i, [ti]⟩ : Pn), (some ⟨gi, 0, none⟩, 1))) 49)) := (Below.refl _ _).alloc (Nat.le_refl _) _
              have hgpP : ∀ g', (Value.slice (some ⟨gP, 0, none⟩) m c).ownBlock = some g' → gp ≠ g' := fun g' e => by
                obtain ⟨cur, k⟩ := roP_blk F.own.p e
                have := k.lt
                rw [egp]; omega
              have F := F.step ba hBW
              have kI := kI.below ba kI.lt
              have hBW := Nat.le_trans hBW ba.size
              rw [← egp]
              show K _ (W1.alloc (.cells (prC ((⟨ti, x.1.i, [ti]⟩ : Pn), (some ⟨gi, 0, none⟩, 1))) 49))
              generalize W1.alloc (.cells (prC ((⟨ti, x.1.i, [ti]⟩ : Pn), (some ⟨gi, 0, none⟩, 1))) 49) = W2 at F kI kP hBW ⊢
              clear egp ba
              refine hK.out _ _ J (fun _ => ?_)
              clear hK K
              try simp only [Act.put, qA, qB, qC, qD, qE, qF]
              refine wpAnyH_ready (rs := [19]) (by kernel_rfl) (by simp) ?_
              refine AllReadyH.cons rfl (fun K hK => ?_) AllReadyH.nil
              try simp only [Act.put, qA, qB, qC, qD, qE, qF]
              go_simp
              refine (insert_P B (some ⟨gP, 0, none⟩) m c pl L ((⟨ti, x.1.i, [ti]⟩ : Pn), (some ⟨gi, 0, none⟩, 1)) gp W2 F.own.p kP.blk hgpP hm7 hBW hle).mono ?_
              rintro e W3 ⟨A9, c9, rfl, rp, hgr, bb⟩
              go_wp2_with fail
              have hrow : ∀ g', (Value.slice (some ⟨gP, 0, none⟩) m c).ownBlock = some g' → ∃ cs t, Blk W2 g' cs t ∧ t = 49 := fun g' e => by obtain ⟨cur, k⟩ := roP_blk F.own.p e; exact ⟨cur, _, k, rfl⟩
              have hkz : ∀ {A m c l}, Zo W2 B A m c l → Zo W3 B A m c l := fun h => own_kind h hgr (fun g' e => by obtain ⟨cs, t, k, rfl⟩ := hrow g' e; exact ⟨cs, _, k, by decide⟩)
              have kg3 : Blk W3 g (tkC ta Ua1 um1 uc1 (some ⟨gP, 0, none⟩) m c) 27 := ⟨(hgr.block g F.kg.lt (fun e => by
                obtain ⟨cs, t, k, rfl⟩ := hrow g e.symm
                exact absurd (blk_kind k F.kg) (by decide))).trans F.kg.blk⟩
              have hzi : Zo W3 B (some ⟨gi, 0, none⟩) 1 1 [ti] := hkz (zo_block hgiB kI.blk (Nat.le_refl _) (by simp [maxLen]) rfl rfl rfl)
              have own3 : OwnT W3 B Ua1 um1 uc1 tl A9 (m + 1) c9 (insL pl ((⟨ti, x.1.i, [ti]⟩ : Pn), (some ⟨gi, 0, none⟩, 1)) L) := ⟨hkz F.own.u, rp, fun y hy => by
                rcases mem_insP7.1 hy with rfl | hy
                · exact hzi
                · exact hkz (F.own.q y hy), qd_iff.2 (ap_ins (qd_iff.1 F.own.qd) (fun y hy g' h1 h2 => by
                  cases h1
                  exact absurd (hfi y hy _ h2) (Nat.lt_irrefl _))), fun y hy g' h1 h2 => by
                rcases mem_insP7.1 hy with rfl | hy
                · cases h1
                  exact absurd (hfu _ h2) (Nat.lt_irrefl _)
                · exact F.own.ud y hy g' h1 h2⟩
              have hb3 := F.b.trans bb
              clear hgr bb hrow hkz hzi rp
              refine hK.out _ _ J (fun _ => ?_)
              clear hK K
              try simp only [Act.put, qA, qB, qC, qD, qE, qF]
              refine wpAnyH_take (i := 20) (v := .pointer (some ⟨g, 0, none⟩)) rfl (by kernel_rfl) (by kernel_rfl) (by kernel_rfl) (fun _ _ _ h => nomatch h.1) (.inl ⟨by rfl, fun V hV => by go_simp⟩) J ?_
              try simp only [Act.put, qA, qB, qC, qD, qE, qF]
              refine wpAnyH_take (i := 21) (v := .pointer (some ⟨g, 2, none⟩)) rfl (by kernel_rfl) (by kernel_rfl) (by kernel_rfl) (fun _ _ _ h => nomatch h.1) (.inl ⟨by rfl, fun V hV => by go_simp⟩) J ?_
              try simp only [Act.put, qA, qB, qC, qD, qE, qF]
              refine wpAnyH_ready (rs := [22]) (by kernel_rfl) (by simp) ?_
              refine AllReadyH.cons rfl (fun K hK => ?_) AllReadyH.nil
              try simp only [Act.put, qA, qB, qC, qD, qE, qF]
              have q0 : W3.cell? ⟨g, 2, none⟩ = some (.slice (some ⟨gP, 0, none⟩) m c) := kg3.cell 2
              have f0 := kg3.frozen 2
              go_simp
              clear q0 f0
              have n4 : But g W3 (W3.setCell ⟨g, 2, none⟩ (.slice A9 (m + 1) c9)) := (But.refl g W3).setCell (p := ⟨g, 2, none⟩) (.inl rfl) _
              have own4 := own3.kind n4 kg3 (by decide) (by decide)
              have kg4 := kg3.set_ 2 (.slice A9 (m + 1) c9)
              have hb4 := hb3.trans (n4.below _ hBg (Nat.le_trans hBV hb3.size))
              generalize W3.setCell ⟨g, 2, none⟩ (.slice A9 (m + 1) c9) = W4 at own4 kg4 hb4 ⊢
              refine hK.out _ _ J (fun _ => ?_)
              clear hK K
              try simp only [Act.put, qA, qB, qC, qD, qE, qF]
              refine wpAnyH_done (by kernel_rfl) ?_ _
              refine ⟨rfl, ?_⟩
              clear J
              go_wp2_with fail
              refine bodyPost_ret (results_tmp2 rfl _ _ _) rfl ?_
              have hnames : (insL pl ((⟨ti, x.1.i, [ti]⟩ : Pn), (some ⟨gi, 0, none⟩, 1)) L).map (·.1) = insL pl ⟨ti, x.1.i, [ti]⟩ P := by rw [ins_names, HPL.out.2.1]
              have hcn : cntT (insL pl ⟨ti, x.1.i, [ti]⟩ P) = cntT P + 1 := cnt_ins
              exact ⟨rfl, hb4, fun _ => ⟨Ua1, um1, uc1, A9, m + 1, c9, _, kg4, own4.tk (by rw [HZU.out]; exact HTL.out (by trivial)) hm7 (fun y hy => by
                have := cnt_le (P := insL pl ⟨ti, x.1.i, [ti]⟩ P) (x := y.1) (by rw [← hnames]; exact List.mem_map.2 ⟨y, hy, rfl⟩)
                omega) (by rw [thr_cnt, hnames]; omega), hnames.trans (by rw [HPE.out]), own4⟩⟩
            · try simp only [Act.put, qA, qB, qC, qD, qE, qF]
              obtain ⟨b7, off7, he7, hb7, hc7⟩ := F.own.p.rs p HPL.out.1
              cases he7
              rw [HX.out, Nat.zero_add] at hc7
              have qq := hc7 0 _ rfl
              rw [Nat.add_zero] at qq
              change _ = some (Value.int .i64 x.1.i) at qq
              go_simp
              clear qq hc7 hb7
              refine hK.out _ _ J (fun _ => ?_)
              clear hK K
              try simp only [Act.put, qA, qB, qC, qD, qE, qF]
              refine wpAnyH_take (i := 17) (v := .agg #[.int .i64 ti, .int .i64 x.1.i, .slice (some ⟨gi, 0, none⟩) 1 1]) rfl (by kernel_rfl) (by kernel_rfl) (by kernel_rfl) (fun _ _ _ h => nomatch h.1) (.inl ⟨by rfl, fun V hV => by go_simp⟩) J ?_
              try simp only [Act.put, qA, qB, qC, qD, qE, qF]
              refine wpAnyH_ready (rs := [4, 18]) (by kernel_rfl) (by simp) ?_
              refine AllReadyH.cons rfl (fun K hK => ?_) (AllReadyH.cons rfl (fun K hK => ?_) AllReadyH.nil)
              · try simp only [Act.put, qA, qB, qC, qD, qE, qF]
                have qq := F.kg.cell 2
                change _ = some (Value.slice (some ⟨gP, 0, none⟩) m c) at qq
                go_simp
                clear qq
                refine hK.out _ _ J (fun _ => ?_)
                clear hK K
                try simp only [Act.put, qA, qB, qC, qD, qE, qF]
                refine wpAnyH_ready (rs := [18]) (by kernel_rfl) (by simp) ?_
                refine AllReadyH.cons rfl (fun K hK => ?_) AllReadyH.nil
                try simp only [Act.put, qA, qB, qC, qD, qE, qF]
                go_simp
                obtain ⟨gp, egp⟩ : ∃ gp, gp = W1.heap.size := ⟨_, rfl⟩
                have kP := Blk.new_ W1 (prC ((⟨ti, x.1.i, [ti]⟩ : Pn), (some ⟨gi, 0, none⟩, 1))) 49 egp.symm
                have ba : Below W1.heap.size W1 (W1.alloc (.cells (prC ((⟨ti, x.1.i, [ti]⟩ : Pn), (some ⟨gi, 0, none⟩, 1))) 49)) := (Below.refl _ _).alloc (Nat.le_refl _) _
                have hgpP : ∀ g', (Value.slice (some ⟨gP, 0, none⟩) m c).ownBlock = some g' → gp ≠ g' := fun g' e => by
                  obtain ⟨cur, k⟩ := roP_blk F.own.p e
                  have := k.lt
                  rw [egp]; omega
                have F := F.step ba hBW
                have kI := kI.below ba kI.lt
                have hBW := Nat.le_trans hBW ba.size
                rw [← egp]
                show K _ (W1.alloc (.cells (prC ((⟨ti, x.1.i, [ti]⟩ : Pn), (some ⟨gi, 0, none⟩, 1))) 49))
                generalize W1.alloc (.cells (prC ((⟨ti, x.1.i, [ti]⟩ : Pn), (some ⟨gi, 0, none⟩, 1))) 49) = W2 at F kI kP hBW ⊢
                clear egp ba
                refine hK.out _ _ J (fun _ => ?_)
                clear hK K
                try simp only [Act.put, qA, qB, qC, qD, qE, qF]
                refine wpAnyH_ready (rs := [19]) (by kernel_rfl) (by simp) ?_
                refine AllReadyH.cons rfl (fun K hK => ?_) AllReadyH.nil
                try simp only [Act.put, qA, qB, qC, qD, qE, qF]
                go_simp
                refine (insert_P B (some ⟨gP, 0, none⟩) m c pl L ((⟨ti, x.1.i, [ti]⟩ : Pn), (some ⟨gi, 0, none⟩, 1)) gp W2 F.own.p kP.blk hgpP hm7 hBW hle).mono ?_
                rintro e W3 ⟨A9, c9, rfl, rp, hgr, bb⟩
                go_wp2_with fail
                have hrow : ∀ g', (Value.slice (some ⟨gP, 0, none⟩) m c).ownBlock = some g' → ∃ cs t, Blk W2 g' cs t ∧ t = 49 := fun g' e => by obtain ⟨cur, k⟩ := roP_blk F.own.p e; exact ⟨cur, _, k, rfl⟩
                have hkz : ∀ {A m c l}, Zo W2 B A m c l → Zo W3 B A m c l := fun h => own_kind h hgr (fun g' e => by obtain ⟨cs, t, k, rfl⟩ := hrow g' e; exact ⟨cs, _, k, by decide⟩)
                have kg3 : Blk W3 g (tkC ta Ua1 um1 uc1 (some ⟨gP, 0, none⟩) m c) 27 := ⟨(hgr.block g F.kg.lt (fun e => by
                  obtain ⟨cs, t, k, rfl⟩ := hrow g e.symm
                  exact absurd (blk_kind k F.kg) (by decide))).trans F.kg.blk⟩
                have hzi : Zo W3 B (some ⟨gi, 0, none⟩) 1 1 [ti] := hkz (zo_block hgiB kI.blk (Nat.le_refl _) (by simp [maxLen]) rfl rfl rfl)
                have own3 : OwnT W3 B Ua1 um1 uc1 tl A9 (m + 1) c9 (insL pl ((⟨ti, x.1.i, [ti]⟩ : Pn), (some ⟨gi, 0, none⟩, 1)) L) := ⟨hkz F.own.u, rp, fun y hy => by
                  rcases mem_insP7.1 hy with rfl | hy
                  · exact hzi
                  · exact hkz (F.own.q y hy), qd_iff.2 (ap_ins (qd_iff.1 F.own.qd) (fun y hy g' h1 h2 => by
                    cases h1
                    exact absurd (hfi y hy _ h2) (Nat.lt_irrefl _))), fun y hy g' h1 h2 => by
                  rcases mem_insP7.1 hy with rfl | hy
                  · cases h1
                    exact absurd (hfu _ h2) (Nat.lt_irrefl _)
                  · exact F.own.ud y hy g' h1 h2⟩
                have hb3 := F.b.trans bb
                clear hgr bb hrow hkz hzi rp
                refine hK.out _ _ J (fun _ => ?_)
                clear hK K
                try simp only [Act.put, qA, qB, qC, qD, qE, qF]
                refine wpAnyH_take (i := 20) (v := .pointer (some ⟨g, 0, none⟩)) rfl (by kernel_rfl) (by kernel_rfl) (by kernel_rfl) (fun _ _ _ h => nomatch h.1) (.inl ⟨by rfl, fun V hV => by go_simp⟩) J ?_
                try simp only [Act.put, qA, qB, qC, qD, qE, qF]
                refine wpAnyH_take (i := 21) (v := .pointer (some ⟨g, 2, none⟩)) rfl (by kernel_rfl) (by kernel_rfl) (by kernel_rfl) (fun _ _ _ h => nomatch h.1) (.inl ⟨by rfl, fun V hV => by go_simp⟩) J ?_
                try simp only [Act.put, qA, qB, qC, qD, qE, qF]
                refine wpAnyH_ready (rs := [22]) (by kernel_rfl) (by simp) ?_
                refine AllReadyH.cons rfl (fun K hK => ?_) AllReadyH.nil
                try simp only [Act.put, qA, qB, qC, qD, qE, qF]
                have q0 : W3.cell? ⟨g, 2, none⟩ = some (.slice (some ⟨gP, 0, none⟩) m c) := kg3.cell 2
                have f0 := kg3.frozen 2
                go_simp
                clear q0 f0
                have n4 : But g W3 (W3.setCell ⟨g, 2, none⟩ (.slice A9 (m + 1) c9)) := (But.refl g W3).setCell (p := ⟨g, 2, none⟩) (.inl rfl) _
                have own4 := own3.kind n4 kg3 (by decide) (by decide)
                have kg4 := kg3.set_ 2 (.slice A9 (m + 1) c9)
                have hb4 := hb3.trans (n4.below _ hBg (Nat.le_trans hBV hb3.size))
                generalize W3.setCell ⟨g, 2, none⟩ (.slice A9 (m + 1) c9) = W4 at own4 kg4 hb4 ⊢
                refine hK.out _ _ J (fun _ => ?_)
                clear hK K
                try simp only [Act.put, qA, qB, qC, qD, qE, qF]
                refine wpAnyH_done (by kernel_rfl) ?_ _
                refine ⟨rfl, ?_⟩
                clear J
                go_wp2_with fail
                refine bodyPost_ret (results_tmp2 rfl _ _ _) rfl ?_
                have hnames : (insL pl ((⟨ti, x.1.i, [ti]⟩ : Pn), (some ⟨gi, 0, none⟩, 1)) L).map (·.1) = insL pl ⟨ti, x.1.i, [ti]⟩ P := by rw [ins_names, HPL.out.2.1]
                have hcn : cntT (insL pl ⟨ti, x.1.i, [ti]⟩ P) = cntT P + 1 := cnt_ins
                exact ⟨rfl, hb4, fun _ => ⟨Ua1, um1, uc1, A9, m + 1, c9, _, kg4, own4.tk (by rw [HZU.out]; exact HTL.out (by trivial)) hm7 (fun y hy => by
                  have := cnt_le (P := insL pl ⟨ti, x.1.i, [ti]⟩ P) (x := y.1) (by rw [← hnames]; exact List.mem_map.2 ⟨y, hy, rfl⟩)
                  omega) (by rw [thr_cnt, hnames]; omega), hnames.trans (by rw [HPE.out]), own4⟩⟩
              · try simp only [Act.put, qA, qB, qC, qD, qE, qF]
                go_simp
                obtain ⟨gp, egp⟩ : ∃ gp, gp = W1.heap.size := ⟨_, rfl⟩
                have kP := Blk.new_ W1 (prC ((⟨ti, x.1.i, [ti]⟩ : Pn), (some ⟨gi, 0, none⟩, 1))) 49 egp.symm
                have ba : Below W1.heap.size W1 (W1.alloc (.cells (prC ((⟨ti, x.1.i, [ti]⟩ : Pn), (some ⟨gi, 0, none⟩, 1))) 49)) := (Below.refl _ _).alloc (Nat.le_refl _) _
                have hgpP : ∀ g', (Value.slice (some ⟨gP, 0, none⟩) m c).ownBlock = some g' → gp ≠ g' := fun g' e => by
                  obtain ⟨cur, k⟩ := roP_blk F.own.p e
                  have := k.lt
                  rw [egp]; omega
                have F := F.step ba hBW
                have kI := kI.below ba kI.lt
                have hBW := Nat.le_trans hBW ba.size
                rw [← egp]
                show K _ (W1.alloc (.cells (prC ((⟨ti, x.1.i, [ti]⟩ : Pn), (some ⟨gi, 0, none⟩, 1))) 49))
                generalize W1.alloc (.cells (prC ((⟨ti, x.1.i, [ti]⟩ : Pn), (some ⟨gi, 0, none⟩, 1))) 49) = W2 at F kI kP hBW ⊢
                clear egp ba
                refine hK.out _ _ J (fun _ => ?_)
                clear hK K
                try simp only [Act.put, qA, qB, qC, qD, qE, qF]
                refine wpAnyH_ready (rs := [4]) (by kernel_rfl) (by simp) ?_
                refine AllReadyH.cons rfl (fun K hK => ?_) AllReadyH.nil
                try simp only [Act.put, qA, qB, qC, qD, qE, qF]
                have qq := F.kg.cell 2
                change _ = some (Value.slice (some ⟨gP, 0, none⟩) m c) at qq
                go_simp
                clear qq
                refine hK.out _ _ J (fun _ => ?_)
                clear hK K
                try simp only [Act.put, qA, qB, qC, qD, qE, qF]
                refine wpAnyH_ready (rs := [19]) (by kernel_rfl) (by simp) ?_
                refine AllReadyH.cons rfl (fun K hK => ?_) AllReadyH.nil
                try simp only [Act.put, qA, qB, qC, qD, qE, qF]
                go_simp
                refine (insert_P B (some ⟨gP, 0, none⟩) m c pl L ((⟨ti, x.1.i, [ti]⟩ : Pn), (some ⟨gi, 0, none⟩, 1)) gp W2 F.own.p kP.blk hgpP hm7 hBW hle).mono ?_
                rintro e W3 ⟨A9, c9, rfl, rp, hgr, bb⟩
                go_wp2_with fail
                have hrow : ∀ g', (Value.slice (some ⟨gP, 0, none⟩) m c).ownBlock = some g' → ∃ cs t, Blk W2 g' cs t ∧ t = 49 := fun g' e => by obtain ⟨cur, k⟩ := roP_blk F.own.p e; exact ⟨cur, _, k, rfl⟩
                have hkz : ∀ {A m c l}, Zo W2 B A m c l → Zo W3 B A m c l := fun h => own_kind h hgr (fun g' e => by obtain ⟨cs, t, k, rfl⟩ := hrow g' e; exact ⟨cs, _, k, by decide⟩)
                have kg3 : Blk W3 g (tkC ta Ua1 um1 uc1 (some ⟨gP, 0, none⟩) m c) 27 := ⟨(hgr.block g F.kg.lt (fun e => by
                  obtain ⟨cs, t, k, rfl⟩ := hrow g e.symm
                  exact absurd (blk_kind k F.kg) (by decide))).trans F.kg.blk⟩
                have hzi : Zo W3 B (some ⟨gi, 0, none⟩) 1 1 [ti] := hkz (zo_block hgiB kI.blk (Nat.le_refl _) (by simp [maxLen]) rfl rfl rfl)
                have own3 : OwnT W3 B Ua1 um1 uc1 tl A9 (m + 1) c9 (insL pl ((⟨ti, x.1.i, [ti]⟩ : Pn), (some ⟨gi, 0, none⟩, 1)) L) := ⟨hkz F.own.u, rp, fun y hy => by
                  rcases mem_insP7.1 hy with rfl | hy
                  · exact hzi
                  · exact hkz (F.own.q y hy), qd_iff.2 (ap_ins (qd_iff.1 F.own.qd) (fun y hy g' h1 h2 => by
                    cases h1
                    exact absurd (hfi y hy _ h2) (Nat.lt_irrefl _))), fun y hy g' h1 h2 => by
                  rcases mem_insP7.1 hy with rfl | hy
                  · cases h1
                    exact absurd (hfu _ h2) (Nat.lt_irrefl _)
                  · exact F.own.ud y hy g' h1 h2⟩
                have hb3 := F.b.trans bb
                clear hgr bb hrow hkz hzi rp
                refine hK.out _ _ J (fun _ => ?_)
                clear hK K
                try simp only [Act.put, qA, qB, qC, qD, qE, qF]
                refine wpAnyH_take (i := 20) (v := .pointer (some ⟨g, 0, none⟩)) rfl (by kernel_rfl) (by kernel_rfl) (by kernel_rfl) (fun _ _ _ h => nomatch h.1) (.inl ⟨by rfl, fun V hV => by go_simp⟩) J ?_
                try simp only [Act.put, qA, qB, qC, qD, qE, qF]
                refine wpAnyH_take (i := 21) (v := .pointer (some ⟨g, 2, none⟩)) rfl (by kernel_rfl) (by kernel_rfl) (by kernel_rfl) (fun _ _ _ h => nomatch h.1) (.inl ⟨by rfl, fun V hV => by go_simp⟩) J ?_
                try simp only [Act.put, qA, qB, qC, qD, qE, qF]
                refine wpAnyH_ready (rs := [22]) (by kernel_rfl) (by simp) ?_
                refine AllReadyH.cons rfl (fun K hK => ?_) AllReadyH.nil
                try simp only [Act.put, qA, qB, qC, qD, qE, qF]
                have q0 : W3.cell? ⟨g, 2, none⟩ = some (.slice (some ⟨gP, 0, none⟩) m c) := kg3.cell 2
                have f0 := kg3.frozen 2
                go_simp
                clear q0 f0
                have n4 : But g W3 (W3.setCell ⟨g, 2, none⟩ (.slice A9 (m + 1) c9)) := (But.refl g W3).setCell (p := ⟨g, 2, none⟩) (.inl rfl) _
                have own4 := own3.kind n4 kg3 (by decide) (by decide)
                have kg4 := kg3.set_ 2 (.slice A9 (m + 1) c9)
                have hb4 := hb3.trans (n4.below _ hBg (Nat.le_trans hBV hb3.size))
                generalize W3.setCell ⟨g, 2, none⟩ (.slice A9 (m + 1) c9) = W4 at own4 kg4 hb4 ⊢
                refine hK.out _ _ J (fun _ => ?_)
                clear hK K
                try simp only [Act.put, qA, qB, qC, qD, qE, qF]
                refine wpAnyH_done (by kernel_rfl) ?_ _
                refine ⟨rfl, ?_⟩
                clear J
                go_wp2_with fail
                refine bodyPost_ret (results_tmp2 rfl _ _ _) rfl ?_
                have hnames : (insL pl ((⟨ti, x.1.i, [ti]⟩ : Pn), (some ⟨gi, 0, none⟩, 1)) L).map (·.1) = insL pl ⟨ti, x.1.i, [ti]⟩ P := by rw [ins_names, HPL.out.2.1]
                have hcn : cntT (insL pl ⟨ti, x.1.i, [ti]⟩ P) = cntT P + 1 := cnt_ins
                exact ⟨rfl, hb4, fun _ => ⟨Ua1, um1, uc1, A9, m + 1, c9, _, kg4, own4.tk (by rw [HZU.out]; exact HTL.out (by trivial)) hm7 (fun y hy => by
                  have := cnt_le (P := insL pl ⟨ti, x.1.i, [ti]⟩ P) (x := y.1) (by rw [← hnames]; exact List.mem_map.2 ⟨y, hy, rfl⟩)
                  omega) (by rw [thr_cnt, hnames]; omega), hnames.trans (by rw [HPE.out]), own4⟩⟩
        · try simp only [Act.put, qA, qB, qC, qD, qE, qF]
          go_simp
          obtain ⟨gi, egi⟩ : ∃ gi, gi = W0.heap.size := ⟨_, rfl⟩
          have kI := Blk.new_ W0 #[.int .i64 ti] 3 egi.symm
          have ba : Below W0.heap.size W0 (W0.alloc (.cells #[.int .i64 ti] 3)) := (Below.refl _ _).alloc (Nat.le_refl _) _
          have hgiB : B ≤ gi := by rw [egi]; exact hBW
          have hgiV : V.heap.size ≤ gi := by rw [egi]; omega
          have hfi : ∀ y ∈ L, ∀ g', ownT y = some g' → g' < gi := fun y hy g' e => by rw [egi]; exact (zo_at (F.own.q y hy) e).2
          have hfu : ∀ g', (Value.slice Ua1 um1 uc1).ownBlock = some g' → g' < gi := fun g' e => by rw [egi]; exact (zo_at F.own.u e).2
          have F := F.step ba hBW
          have hBW := Nat.le_trans hBW ba.size
          rw [← egi]
          generalize W0.alloc (.cells #[.int .i64 ti] 3) = W1 at F kI hBW ⊢
          clear egi ba
          refine hK.out _ _ J (fun _ => ?_)
          clear hK K
          try simp only [Act.put, qA, qB, qC, qD, qE, qF]
          refine wpAnyH_ready (rs := [4, 10]) (by kernel_rfl) (by simp) ?_
          refine AllReadyH.cons rfl (fun K hK => ?_) (AllReadyH.cons rfl (fun K hK => ?_) AllReadyH.nil)
          · try simp only [Act.put, qA, qB, qC, qD, qE, qF]
            have qq := F.kg.cell 2
            change _ = some (Value.slice (some ⟨gP, 0, none⟩) m c) at qq
            go_simp
            clear qq
            refine hK.out _ _ J (fun _ => ?_)
            clear hK K
            try simp only [Act.put, qA, qB, qC, qD, qE, qF]
            refine wpAnyH_ready (rs := [10]) (by kernel_rfl) (by simp) ?_
            refine AllReadyH.cons rfl (fun K hK => ?_) AllReadyH.nil
            try simp only [Act.put, qA, qB, qC, qD, qE, qF]
            have qq := F.kg.cell 2
            change _ = some (Value.slice (some ⟨gP, 0, none⟩) m c) at qq
            go_simp
            clear qq
            refine hK.out _ _ J (fun _ => ?_)
            clear hK K
            try simp only [Act.put, qA, qB, qC, qD, qE, qF]
            refine wpAnyH_take (i := 12) (v := .pointer (some ⟨gP, p * 3, none⟩)) rfl (by kernel_rfl) (by kernel_rfl) (by kernel_rfl) (fun _ _ _ h => nomatch h.1) (.inl ⟨by rfl, fun V hV => by go_simp⟩) J ?_
            try simp only [Act.put, qA, qB, qC, qD, qE, qF]
            refine wpAnyH_take (i := 13) (v := .pointer (some ⟨gP, p * 3, none⟩)) rfl (by kernel_rfl) (by kernel_rfl) (by kernel_rfl) (fun _ _ _ h => nomatch h.1) (.inl ⟨by rfl, fun V hV => by go_simp⟩) J ?_
            try simp only [Act.put, qA, qB, qC, qD, qE, qF]
            refine wpAnyH_ready (rs := [14]) (by kernel_rfl) (by simp) ?_
            refine AllReadyH.cons rfl (fun K hK => ?_) AllReadyH.nil
            try simp only [Act.put, qA, qB, qC, qD, qE, qF]
            obtain ⟨b7, off7, he7, hb7, hc7⟩ := F.own.p.rs p HPL.out.1
            cases he7
            rw [HX.out, Nat.zero_add] at hc7
            have qq := hc7 0 _ rfl
            rw [Nat.add_zero] at qq
            change _ = some (Value.int .i64 x.1.i) at qq
            go_simp
            clear qq hc7 hb7
            refine hK.out _ _ J (fun _ => ?_)
            clear hK K
            try simp only [Act.put, qA, qB, qC, qD, qE, qF]
            refine wpAnyH_take (i := 17) (v := .agg #[.int .i64 ti, .int .i64 x.1.i, .slice (some ⟨gi, 0, none⟩) 1 1]) rfl (by kernel_rfl) (by kernel_rfl) (by kernel_rfl) (fun _ _ _ h => nomatch h.1) (.inl ⟨by rfl, fun V hV => by go_simp⟩) J ?_
            try simp only [Act.put, qA, qB, qC, qD, qE, qF]
            refine wpAnyH_ready (rs := [18]) (by kernel_rfl) (by simp) ?_
            refine AllReadyH.cons rfl (fun K hK => ?_) AllReadyH.nil
            try simp only [Act.put, qA, qB, qC, qD, qE, qF]
            go_simp
            obtain ⟨gp, egp⟩ : ∃ gp, gp = W1.heap.size := ⟨_, rfl⟩
            have kP := Blk.new_ W1 (prC ((⟨ti, x.1.i, [ti]⟩ : Pn), (some ⟨gi, 0, none⟩, 1))) 49 egp.symm
            have ba : Below W1.heap.size W1 (W1.alloc (.cells (prC ((⟨ti, x.1.i, [ti]⟩ : Pn), (some ⟨gi, 0, none⟩, 1))) 49)) := (Below.refl _ _).alloc (Nat.le_refl _) _
            have hgpP : ∀ g', (Value.slice (some ⟨gP, 0, none⟩) m c).ownBlock = some g' → gp ≠ g' := fun g' e => by
              obtain ⟨cur, k⟩ := roP_blk F.own.p e
              have := k.lt
              rw [egp]; omega
            have F := F.step ba hBW
            have kI := kI.below ba kI.lt
            have hBW := Nat.le_trans hBW ba.size
            rw [← egp]
            show K _ (W1.alloc (.cells (prC ((⟨ti, x.1.i, [ti]⟩ : Pn), (some ⟨gi, 0, none⟩, 1))) 49))
            generalize W1.alloc (.cells (prC ((⟨ti, x.1.i, [ti]⟩ : Pn), (some ⟨gi, 0, none⟩, 1))) 49) = W2 at F kI kP hBW ⊢
            clear egp ba
            refine hK.out _ _ J (fun _ => ?_)
            clear hK K
            try simp only [Act.put, qA, qB, qC, qD, qE, qF]
            refine wpAnyH_ready (rs := [19]) (by kernel_rfl) (by simp) ?_
            refine AllReadyH.cons rfl (fun K hK => ?_) AllReadyH.nil
            try simp only [Act.put, qA, qB, qC, qD, qE, qF]
            go_simp
            refine (insert_P B (some ⟨gP, 0, none⟩) m c pl L ((⟨ti, x.1.i, [ti]⟩ : Pn), (some ⟨gi, 0, none⟩, 1)) gp W2 F.own.p kP.blk hgpP hm7 hBW hle).mono ?_
            rintro e W3 ⟨A9, c9, rfl, rp, hgr, bb⟩
            go_wp2_with fail
            have hrow : ∀ g', (Value.slice (some ⟨gP, 0, none⟩) m c).ownBlock = some g' → ∃ cs t, Blk W2 g' cs t ∧ t = 49 := fun g' e => by obtain ⟨cur, k⟩ := roP_blk F.own.p e; exact ⟨cur, _, k, rfl⟩
            have hkz : ∀ {A m c l}, Zo W2 B A m c l → Zo W3 B A m c l := fun h => own_kind h hgr (fun g' e => by obtain ⟨cs, t, k, rfl⟩ := hrow g' e; exact ⟨cs, _, k, by decide⟩)
            have kg3 : Blk W3 g (tkC ta Ua1 um1 uc1 (some ⟨gP, 0, none⟩) m c) 27 := ⟨(hgr.block g F.kg.lt (fun e => by
              obtain ⟨cs, t, k, rfl⟩ := hrow g e.symm
              exact absurd (blk_kind k F.kg) (by decide))).trans F.kg.blk⟩
            have hzi : Zo W3 B (some ⟨gi, 0, none⟩) 1 1 [ti] := hkz (zo_block hgiB kI.blk (Nat.le_refl _) (by simp [maxLen]) rfl rfl rfl)
            have own3 : OwnT W3 B Ua1 um1 uc1 tl A9 (m + 1) c9 (insL pl ((⟨ti, x.1.i, [ti]⟩ : Pn), (some ⟨gi, 0, none⟩, 1)) L) := ⟨hkz F.own.u, rp, fun y hy => by
              rcases mem_insP7.1 hy with rfl | hy
              · exact hzi
              · exact hkz (F.own.q y hy), qd_iff.2 (ap_ins (qd_iff.1 F.own.qd) (fun y hy g' h1 h2 => by
                cases h1
                exact absurd (hfi y hy _ h2) (Nat.lt_irrefl _))), fun y hy g' h1 h2 => by
              rcases mem_insP7.1 hy with rfl | hy
              · cases h1
                exact absurd (hfu _ h2) (Nat.lt_irrefl _)
              · exact F.own.ud y hy g' h1 h2⟩
            have hb3 := F.b.trans bb
            clear hgr bb hrow hkz hzi rp
            refine hK.out _ _ J (fun _ => ?_)
            clear hK K
            try simp only [Act.put, qA, qB, qC, qD, qE, qF]
            refine wpAnyH_take (i := 20) (v := .pointer (some ⟨g, 0, none⟩)) rfl (by kernel_rfl) (by kernel_rfl) (by kernel_rfl) (fun _ _ _ h => nomatch h.1) (.inl ⟨by rfl, fun V hV => by go_simp⟩) J ?_
            try simp only [Act.put, qA, qB, qC, qD, qE, qF]
            refine wpAnyH_take (i := 21) (v := .pointer (some ⟨g, 2, none⟩)) rfl (by kernel_rfl) (by kernel_rfl) (by kernel_rfl) (fun _ _ _ h => nomatch h.1) (.inl ⟨by rfl, fun V hV => by go_simp⟩) J ?_
            try simp only [Act.put, qA, qB, qC, qD, qE, qF]
            refine wpAnyH_ready (rs := [22]) (by kernel_rfl) (by simp) ?_
            refine AllReadyH.cons rfl (fun K hK => ?_) AllReadyH.nil
            try simp only [Act.put, qA, qB, qC, qD, qE, qF]
            have q0 : W3.cell? ⟨g, 2, none⟩ = some (.slice (some ⟨gP, 0, none⟩) m c) := kg3.cell 2
            have f0 := kg3.frozen 2
            go_simp
            clear q0 f0
            have n4 : But g W3 (W3.setCell ⟨g, 2, none⟩ (.slice A9 (m + 1) c9)) := (But.refl g W3).setCell (p := ⟨g, 2, none⟩) (.inl rfl) _
            have own4 := own3.kind n4 kg3 (by decide) (by decide)
            have kg4 := kg3.set_ 2 (.slice A9 (m + 1) c9)
            have hb4 := hb3.trans (n4.below _ hBg (Nat.le_trans hBV hb3.size))
            generalize W3.setCell ⟨g, 2, none⟩ (.slice A9 (m + 1) c9) = W4 at own4 kg4 hb4 ⊢
            refine hK.out _ _ J (fun _ => ?_)
            clear hK K
            try simp only [Act.put, qA, qB, qC, qD, qE, qF]
            refine wpAnyH_done (by kernel_rfl) ?_ _
            refine ⟨rfl, ?_⟩
            clear J
            go_wp2_with fail
            refine bodyPost_ret (results_tmp2 rfl _ _ _) rfl ?_
            have hnames : (insL pl ((⟨ti, x.1.i, [ti]⟩ : Pn), (some ⟨gi, 0, none⟩, 1)) L).map (·.1) = insL pl ⟨ti, x.1.i, [ti]⟩ P := by rw [ins_names, HPL.out.2.1]
            have hcn : cntT (insL pl ⟨ti, x.1.i, [ti]⟩ P) = cntT P + 1 := cnt_ins
            exact ⟨rfl, hb4, fun _ => ⟨Ua1, um1, uc1, A9, m + 1, c9, _, kg4, own4.tk (by rw [HZU.out]; exact HTL.out (by trivial)) hm7 (fun y hy => by
              have := cnt_le (P := insL pl ⟨ti, x.1.i, [ti]⟩ P) (x := y.1) (by rw [← hnames]; exact List.mem_map.2 ⟨y, hy, rfl⟩)
              omega) (by rw [thr_cnt, hnames]; omega), hnames.trans (by rw [HPE.out]), own4⟩⟩
          · try simp only [Act.put, qA, qB, qC, qD, qE, qF]
            have qq := F.kg.cell 2
            change _ = some (Value.slice (some ⟨gP, 0, none⟩) m c) at qq
            go_simp
            clear qq
            refine hK.out _ _ J (fun _ => ?_)
            clear hK K
            try simp only [Act.put, qA, qB, qC, qD, qE, qF]
            refine wpAnyH_take (i := 12) (v := .pointer (some ⟨gP, p * 3, none⟩)) rfl (by kernel_rfl) (by kernel_rfl) (by kernel_rfl) (fun _ _ _ h => nomatch h.1) (.inl ⟨by rfl, fun V hV => by go_simp⟩) J ?_
            try simp only [Act.put, qA, qB, qC, qD, qE, qF]
            refine wpAnyH_take (i := 13) (v := .pointer (some ⟨gP, p * 3, none⟩)) rfl (by kernel_rfl) (by kernel_rfl) (by kernel_rfl) (fun _ _ _ h => nomatch h.1) (.inl ⟨by rfl, fun V hV => by go_simp⟩) J ?_
            try simp only [Act.put, qA, qB, qC, qD, qE, qF]
            refine wpAnyH_ready (rs := [4, 14]) (by kernel_rfl) (by simp) ?_
            refine AllReadyH.cons rfl (fun K hK => ?_) (AllReadyH.cons rfl (fun K hK => ?_) AllReadyH.nil)
            · try simp only [Act.put, qA, qB, qC, qD, qE, qF]
              have qq := F.kg.cell 2
              change _ = some (Value.slice (some ⟨gP, 0, none⟩) m c) at qq
              go_simp
              clear qq
              refine hK.out _ _ J (fun _ => ?_)
              clear hK K
              try simp only [Act.put, qA, qB, qC, qD, qE, qF]
              refine wpAnyH_ready (rs := [14]) (by kernel_rfl) (by simp) ?_
              refine AllReadyH.cons rfl (fun K hK => ?_) AllReadyH.nil
              try simp only [Act.put, qA, qB, qC, qD, qE, qF]
              obtain ⟨b7, off7, he7, hb7, hc7⟩ := F.own.p.rs p HPL.out.1
              cases he7
              rw [HX.out, Nat.zero_add] at hc7
              have qq := hc7 0 _ rfl
              rw [Nat.add_zero] at qq
              change _ = some (Value.int .i64 x.1.i) at qq
              go_simp
              clear qq hc7 hb7
              refine hK.out _ _ J (fun _ => ?_)
              clear hK K
              try simp only [Act.put, qA, qB, qC, qD, qE, qF]
              refine wpAnyH_take (i := 17) (v := .agg #[.int .i64 ti, .int .i64 x.1.i, .slice (some ⟨gi, 0, none⟩) 1 1]) rfl (by kernel_rfl) (by kernel_rfl) (by kernel_rfl) (fun _ _ _ h => nomatch h.1) (.inl ⟨by rfl, fun V hV => by go_simp⟩) J ?_
              try simp only [Act.put, qA, qB, qC, qD, qE, qF]
              refine wpAnyH_ready (rs := [18]) (by kernel_rfl) (by simp) ?_
              refine AllReadyH.cons rfl (fun K hK => ?_) AllReadyH.nil
              try simp only [Act.put, qA, qB, qC, qD, qE, qF]
              go_simp
              obtain ⟨gp, egp⟩ : ∃ gp, gp = W1.heap.size := ⟨_, rfl⟩
              have kP := Blk.new_ W1 (prC ((⟨ti, x.1.i, [ti]⟩ : Pn), (some ⟨gi, 0, none⟩, 1))) 49 egp.symm
              have ba : Below W1.heap.size W1 (W1.alloc (.cells (prC ((⟨ti, x.1.i, [ti]⟩ : Pn), (some ⟨gi, 0, none⟩, 1))) 49)) := (Below.refl _ _).alloc (Nat.le_refl _) _
              have hgpP : ∀ g', (Value.slice (some ⟨gP, 0, none⟩) m c).ownBlock = some g' → gp ≠ g' := fun g' e => by
                obtain ⟨cur, k⟩ := roP_blk F.own.p e
                have := k.lt
                rw [egp]; omega
              have F := F.step ba hBW
              have kI := kI.below ba kI.lt
              have hBW := Nat.le_trans hBW ba.size
              rw [← egp]
              show K _ (W1.alloc (.cells (prC ((⟨ti, x.1.i, [ti]⟩ : Pn), (some ⟨gi, 0, none⟩, 1))) 49))
              generalize W1.alloc (.cells (prC ((⟨ti, x.1.i, [ti]⟩ : Pn), (some ⟨gi, 0, none⟩, 1))) 49) = W2 at F kI kP hBW ⊢
              clear egp ba
              refine hK.out _ _ J (fun _ => ?_)
              clear hK K
              try simp only [Act.put, qA, qB, qC, qD, qE, qF]
              refine wpAnyH_ready (rs := [19]) (by kernel_rfl) (by simp) ?_
              refine AllReadyH.cons rfl (fun K hK => ?_) AllReadyH.nil
              try simp only [Act.put, qA, qB, qC, qD, qE, qF]
              go_simp
              refine (insert_P B (some ⟨gP, 0, none⟩) m c pl L ((⟨ti, x.1.i, [ti]⟩ : Pn), (some ⟨gi, 0, none⟩, 1)) gp W2 F.own.p kP.blk hgpP hm7 hBW hle).mono ?_
              rintro e W3 ⟨A9, c9, rfl, rp, hgr, bb⟩
              go_wp2_with fail
              have hrow : ∀ g', (Value.slice (some ⟨gP, 0, none⟩) m c).ownBlock = some g' → ∃ cs t, Blk W2 g' cs t ∧ t = 49 := fun g' e => by obtain ⟨cur, k⟩ := roP_blk F.own.p e; exact ⟨cur, _, k, rfl⟩
              have hkz : ∀ {A m c l}, Zo W2 B A m c l → Zo W3 B A m c l := fun h => own_kind h hgr (fun g' e => by obtain ⟨cs, t, k, rfl⟩ := hrow g' e; exact ⟨cs, _, k, by decide⟩)
              have kg3 : Blk W3 g (tkC ta Ua1 um1 uc1 (some ⟨gP, 0, none⟩) m c) 27 := ⟨(hgr.block g F.kg.lt (fun e => by
                obtain ⟨cs, t, k, rfl⟩ := hrow g e.symm
                exact absurd (blk_kind k F.kg) (by decide))).trans F.kg.blk⟩
              have hzi : Zo W3 B (some ⟨gi, 0, none⟩) 1 1 [ti] := hkz (zo_block hgiB kI.blk (Nat.le_refl _) (by simp [maxLen]) rfl rfl rfl)
              have own3 : OwnT W3 B Ua1 um1 uc1 tl A9 (m + 1) c9 (insL pl ((⟨ti, x.1.i, [ti]⟩ : Pn), (some ⟨gi, 0, none⟩, 1)) L) := ⟨hkz F.own.u, rp, fun y hy => by
                rcases mem_insP7.1 hy with rfl | hy
                · exact hzi
                · exact hkz (F.own.q y hy), qd_iff.2 (ap_ins (qd_iff.1 F.own.qd) (fun y hy g' h1 h2 => by
                  cases h1
                  exact absurd (hfi y hy _ h2) (Nat.lt_irrefl _))), fun y hy g' h1 h2 => by
                rcases mem_insP7.1 hy with rfl | hy
                · cases h1
                  exact absurd (hfu _ h2) (Nat.lt_irrefl _)
                · exact F.own.ud y hy g' h1 h2⟩
              have hb3 := F.b.trans bb
              clear hgr bb hrow hkz hzi rp
              refine hK.out _ _ J (fun _ => ?_)
              clear hK K
              try simp only [Act.put, qA, qB, qC, qD, qE, qF]
              refine wpAnyH_take (i := 20) (v := .pointer (some ⟨g, 0, none⟩)) rfl (by kernel_rfl) (by kernel_rfl) (by kernel_rfl) (fun _ _ _ h => nomatch h.1) (.inl ⟨by rfl, fun V hV => by go_simp⟩) J ?_
              try simp only [Act.put, qA, qB, qC, qD, qE, qF]
              refine wpAnyH_take (i := 21) (v := .pointer (some ⟨g, 2, none⟩)) rfl (by kernel_rfl) (by kernel_rfl) (by kernel_rfl) (fun _ _ _ h => nomatch h.1) (.inl ⟨by rfl, fun V hV => by go_simp⟩) J ?_
              try simp only [Act.put, qA, qB, qC, qD, qE, qF]
              refine wpAnyH_ready (rs := [22]) (by kernel_rfl) (by simp) ?_
              refine AllReadyH.cons rfl (fun K hK => ?_) AllReadyH.nil
              try simp only [Act.put, qA, qB, qC, qD, qE, qF]
              have q0 : W3.cell? ⟨g, 2, none⟩ = some (.slice (some ⟨gP, 0, none⟩) m c) := kg3.cell 2
              have f0 := kg3.frozen 2
              go_simp
              clear q0 f0
              have n4 : But g W3 (W3.setCell ⟨g, 2, none⟩ (.slice A9 (m + 1) c9)) := (But.refl g W3).setCell (p := ⟨g, 2, none⟩) (.inl rfl) _
              have own4 := own3.kind n4 kg3 (by decide) (by decide)
              have kg4 := kg3.set_ 2 (.slice A9 (m + 1) c9)
              have hb4 := hb3.trans (n4.below _ hBg (Nat.le_trans hBV hb3.size))
              generalize W3.setCell ⟨g, 2, none⟩ (.slice A9 (m + 1) c9) = W4 at own4 kg4 hb4 ⊢
              refine hK.out _ _ J (fun _ => ?_)
              clear hK K
              try simp only [Act.put, qA, qB, qC, qD, qE, qF]
              refine wpAnyH_done (by kernel_rfl) ?_ _
              refine ⟨rfl, ?_⟩
              clear J
              go_wp2_with fail
              refine bodyPost_ret (results_tmp2 rfl _ _ _) rfl ?_
              have hnames : (insL pl ((⟨ti, x.1.i, [ti]⟩ : Pn), (some ⟨gi, 0, none⟩, 1)) L).map (·.1) = insL pl ⟨ti, x.1.i, [ti]⟩ P := by rw [ins_names, HPL.out.2.1]
              have hcn : cntT (insL pl ⟨ti, x.1.i, [ti]⟩ P) = cntT P + 1 := cnt_ins
              exact ⟨rfl, hb4, fun _ => ⟨Ua1, um1, uc1, A9, m + 1, c9, _, kg4, own4.tk (by rw [HZU.out]; exact HTL.out (by trivial)) hm7 (fun y hy => by
                have := cnt_le (P := insL pl ⟨ti, x.1.i, [ti]⟩ P) (x := y.1) (by rw [← hnames]; exact List.mem_map.2 ⟨y, hy, rfl⟩)
                omega) (by rw [thr_cnt, hnames]; omega), hnames.trans (by rw [HPE.out]), own4⟩⟩
            · try simp only [Act.put, qA, qB, qC, qD, qE, qF]
              obtain ⟨b7, off7, he7, hb7, hc7⟩ := F.own.p.rs p HPL.out.1
              cases he7
              rw [HX.out, Nat.zero_add] at hc7
              have qq := hc7 0 _ rfl
              rw [Nat.add_zero] at qq
              change _ = some (Value.int .i64 x.1.i) at qq
              go_simp
              clear qq hc7 hb7
              refine hK.out _ _ J (fun _ => ?_)
              clear hK K
              try simp only [Act.put, qA, qB, qC, qD, qE, qF]
              refine wpAnyH_take (i := 17) (v := .agg #[.int .i64 ti, .int .i64 x.1.i, .slice (some ⟨gi, 0, none⟩) 1 1]) rfl (by kernel_rfl) (by kernel_rfl) (by kernel_rfl) (fun _ _ _ h => nomatch h.1) (.inl ⟨by rfl, fun V hV => by go_simp⟩) J ?_
              try simp only [Act.put, qA, qB, qC, qD, qE, qF]
              refine wpAnyH_ready (rs := [4, 18]) (by kernel_rfl) (by simp) ?_
              refine AllReadyH.cons rfl (fun K hK => ?_) (AllReadyH.cons rfl (fun K hK => ?_) AllReadyH.nil)
              · try simp only [Act.put, qA, qB, qC, qD, qE, qF]
                have qq := F.kg.cell 2
                change _ = some (Value.slice (some ⟨gP, 0, none⟩) m c) at qq
                go_simp
                clear qq
                refine hK.out _ _ J (fun _ => ?_)
                clear hK K
                try simp only [Act.put, qA, qB, qC, qD, qE, qF]
                refine wpAnyH_ready (rs := [18]) (by kernel_rfl) (by simp) ?_
                refine AllReadyH.cons rfl (fun K hK => ?_) AllReadyH.nil
                try simp only [Act.put, qA, qB, qC, qD, qE, qF]
                go_simp
                obtain ⟨gp, egp⟩ : ∃ gp, gp = W1.heap.size := ⟨_, rfl⟩
                have kP := Blk.new_ W1 (prC ((⟨ti, x.1.i, [ti]⟩ : Pn), (some ⟨gi, 0, none⟩, 1))) 49 egp.symm
                have ba : Below W1.heap.size W1 (W1.alloc (.cells (prC ((⟨ti, x.1.i, [ti]⟩ : Pn), (some ⟨gi, 0, none⟩, 1))) 49)) := (Below.refl _ _).alloc (Nat.le_refl _) _
                have hgpP : ∀ g', (Value.slice (some ⟨gP, 0, none⟩) m c).ownBlock = some g' → gp ≠ g' := fun g' e => by
                  obtain ⟨cur, k⟩ := roP_blk F.own.p e
                  have := k.lt
                  rw [egp]; omega
                have F := F.step ba hBW
                have kI := kI.below ba kI.lt
                have hBW := Nat.le_trans hBW ba.size
                rw [← egp]
                show K _ (W1.alloc (.cells (prC ((⟨ti, x.1.i, [ti]⟩ : Pn), (some ⟨gi, 0, none⟩, 1))) 49))
                generalize W1.alloc (.cells (prC ((⟨ti, x.1.i, [ti]⟩ : Pn), (some ⟨gi, 0, none⟩, 1))) 49) = W2 at F kI kP hBW ⊢
                clear egp ba
                refine hK.out _ _ J (fun _ => ?_)
                clear hK K
                try simp only [Act.put, qA, qB, qC, qD, qE, qF]
                refine wpAnyH_ready (rs := [19]) (by kernel_rfl) (by simp) ?_
                refine AllReadyH.cons rfl (fun K hK => ?_) AllReadyH.nil
                try simp only [Act.put, qA, qB, qC, qD, qE, qF]
                go_simp
                refine (insert_P B (some ⟨gP, 0, none⟩) m c pl L ((⟨ti, x.1.i, [ti]⟩ : Pn), (some ⟨gi, 0, none⟩, 1)) gp W2 F.own.p kP.blk hgpP hm7 hBW hle).mono ?_
                rintro e W3 ⟨A9, c9, rfl, rp, hgr, bb⟩
                go_wp2_with fail
                have hrow : ∀ g', (Value.slice (some ⟨gP, 0, none⟩) m c).ownBlock = some g' → ∃ cs t, Blk W2 g' cs t ∧ t = 49 := fun g' e => by obtain ⟨cur, k⟩ := roP_blk F.own.p e; exact ⟨cur, _, k, rfl⟩
                have hkz : ∀ {A m c l}, Zo W2 B A m c l → Zo W3 B A m c l := fun h => own_kind h hgr (fun g' e => by obtain ⟨cs, t, k, rfl⟩ := hrow g' e; exact ⟨cs, _, k, by decide⟩)
                have kg3 : Blk W3 g (tkC ta Ua1 um1 uc1 (some ⟨gP, 0, none⟩) m c) 27 := ⟨(hgr.block g F.kg.lt (fun e => by
                  obtain ⟨cs, t, k, rfl⟩ := hrow g e.symm
                  exact absurd (blk_kind k F.kg) (by decide))).trans F.kg.blk⟩
                have hzi : Zo W3 B (some ⟨gi, 0, none⟩) 1 1 [ti] := hkz (zo_block hgiB kI.blk (Nat.le_refl _) (by simp [maxLen]) rfl rfl rfl)
                have own3 : OwnT W3 B Ua1 um1 uc1 tl A9 (m + 1) c9 (insL pl ((⟨ti, x.1.i, [ti]⟩ : Pn), (some ⟨gi, 0, none⟩, 1)) L) := ⟨hkz F.own.u, rp, fun y hy => by
                  rcases mem_insP7.1 hy with rfl | hy
                  · exact hzi
                  · exact hkz (F.own.q y hy), qd_iff.2 (ap_ins (qd_iff.1 F.own.qd) (fun y hy g' h1 h2 => by
                    cases h1
                    exact absurd (hfi y hy _ h2) (Nat.lt_irrefl _))), fun y hy g' h1 h2 => by
                  rcases mem_insP7.1 hy with rfl | hy
                  · cases h1
                    exact absurd (hfu _ h2) (Nat.lt_irrefl _)
                  · exact F.own.ud y hy g' h1 h2⟩
                have hb3 := F.b.trans bb
                clear hgr bb hrow hkz hzi rp
                refine hK.out _ _ J (fun _ => ?_)
                clear hK K
                try simp only [Act.put, qA, qB, qC, qD, qE, qF]
                refine wpAnyH_take (i := 20) (v := .pointer (some ⟨g, 0, none⟩)) rfl (by kernel_rfl) (by kernel_rfl) (by kernel_rfl) (fun _ _ _ h => nomatch h.1) (.inl ⟨by rfl, fun V hV => by go_simp⟩) J ?_
                try simp only [Act.put, qA, qB, qC, qD, qE, qF]
                refine wpAnyH_take (i := 21) (v := .pointer (some ⟨g, 2, none⟩)) rfl (by kernel_rfl) (by kernel_rfl) (by kernel_rfl) (fun _ _ _ h => nomatch h.1) (.inl ⟨by rfl, fun V hV => by go_simp⟩) J ?_
                try simp only [Act.put, qA, qB, qC, qD, qE, qF]
                refine wpAnyH_ready (rs := [22]) (by kernel_rfl) (by simp) ?_
                refine AllReadyH.cons rfl (fun K hK => ?_) AllReadyH.nil
                try simp only [Act.put, qA, qB, qC, qD, qE, qF]
                have q0 : W3.cell? ⟨g, 2, none⟩ = some (.slice (some ⟨gP, 0, none⟩) m c) := kg3.cell 2
                have f0 := kg3.frozen 2
                go_simp
                clear q0 f0
                have n4 : But g W3 (W3.setCell ⟨g, 2, none⟩ (.slice A9 (m + 1) c9)) := (But.refl g W3).setCell (p := ⟨g, 2, none⟩) (.inl rfl) _
                have own4 := own3.kind n4 kg3 (by decide) (by decide)
                have kg4 := kg3.set_ 2 (.slice A9 (m + 1) c9)
                have hb4 := hb3.trans (n4.below _ hBg (Nat.le_trans hBV hb3.size))
                generalize W3.setCell ⟨g, 2, none⟩ (.slice A9 (m + 1) c9) = W4 at own4 kg4 hb4 ⊢
                refine hK.out _ _ J (fun _ => ?_)
                clear hK K
                try simp only [Act.put, qA, qB, qC, qD, qE, qF]
                refine wpAnyH_done (by kernel_rfl) ?_ _
                refine ⟨rfl, ?_⟩
                clear J
                go_wp2_with fail
                refine bodyPost_ret (results_tmp2 rfl _ _ _) rfl ?_
                have hnames : (insL pl ((⟨ti, x.1.i, [ti]⟩ : Pn), (some ⟨gi, 0, none⟩, 1)) L).map (·.1) = insL pl ⟨ti, x.1.i, [ti]⟩ P := by rw [ins_names, HPL.out.2.1]
                have hcn : cntT (insL pl ⟨ti, x.1.i, [ti]⟩ P) = cntT P + 1 := cnt_ins
                exact ⟨rfl, hb4, fun _ => ⟨Ua1, um1, uc1, A9, m + 1, c9, _, kg4, own4.tk (by rw [HZU.out]; exact HTL.out (by trivial)) hm7 (fun y hy => by
                  have := cnt_le (P := insL pl ⟨ti, x.1.i, [ti]⟩ P) (x := y.1) (by rw [← hnames]; exact List.mem_map.2 ⟨y, hy, rfl⟩)
                  omega) (by rw [thr_cnt, hnames]; omega), hnames.trans (by rw [HPE.out]), own4⟩⟩
              · try simp only [Act.put, qA, qB, qC, qD, qE, qF]
                go_simp
                obtain ⟨gp, egp⟩ : ∃ gp, gp = W1.heap.size := ⟨_, rfl⟩
                have kP := Blk.new_ W1 (prC ((⟨ti, x.1.i, [ti]⟩ : Pn), (some ⟨gi, 0, none⟩, 1))) 49 egp.symm
                have ba : Below W1.heap.size W1 (W1.alloc (.cells (prC ((⟨ti, x.1.i, [ti]⟩ : Pn), (some ⟨gi, 0, none⟩, 1))) 49)) := (Below.refl _ _).alloc (Nat.le_refl _) _
                have hgpP : ∀ g', (Value.slice (some ⟨gP, 0, none⟩) m c).ownBlock = some g' → gp ≠ g' := fun g' e => by
                  obtain ⟨cur, k⟩ := roP_blk F.own.p e
                  have := k.lt
                  rw [egp]; omega
                have F := F.step ba hBW
                have kI := kI.below ba kI.lt
                have hBW := Nat.le_trans hBW ba.size
                rw [← egp]
                show K _ (W1.alloc (.cells (prC ((⟨ti, x.1.i, [ti]⟩ : Pn), (some ⟨gi, 0, none⟩, 1))) 49))
                generalize W1.alloc (.cells (prC ((⟨ti, x.1.i, [ti]⟩ : Pn), (some ⟨gi, 0, none⟩, 1))) 49) = W2 at F kI kP hBW ⊢
                clear egp ba
                refine hK.out _ _ J (fun _ => ?_)
                clear hK K
                try simp only [Act.put, qA, qB, qC, qD, qE, qF]
                refine wpAnyH_ready (rs := [4]) (by kernel_rfl) (by simp) ?_
                refine AllReadyH.cons rfl (fun K hK => ?_) AllReadyH.nil
                try simp only [Act.put, qA, qB, qC, qD, qE, qF]
                have qq := F.kg.cell 2
                change _ = some (Value.slice (some ⟨gP, 0, none⟩) m c) at qq
                go_simp
                clear qq
                refine hK.out _ _ J (fun _ => ?_)
                clear hK K
                try simp only [Act.put, qA, qB, qC, qD, qE, qF]
                refine wpAnyH_ready (rs := [19]) (by kernel_rfl) (by simp) ?_
                refine AllReadyH.cons rfl (fun K hK => ?_) AllReadyH.nil
                try simp only [Act.put, qA, qB, qC, qD, qE, qF]
                go_simp
                refine (insert_P B (some ⟨gP, 0, none⟩) m c pl L ((⟨ti, x.1.i, [ti]⟩ : Pn), (some ⟨gi, 0, none⟩, 1)) gp W2 F.own.p kP.blk hgpP hm7 hBW hle).mono ?_
                rintro e W3 ⟨A9, c9, rfl, rp, hgr, bb⟩
                go_wp2_with fail
                have hrow : ∀ g', (Value.slice (some ⟨gP, 0, none⟩) m c).ownBlock = some g' → ∃ cs t, Blk W2 g' cs t ∧ t = 49 := fun g' e => by obtain ⟨cur, k⟩ := roP_blk F.own.p e; exact ⟨cur, _, k, rfl⟩
                have hkz : ∀ {A m c l}, Zo W2 B A m c l → Zo W3 B A m c l := fun h => own_kind h hgr (fun g' e => by obtain ⟨cs, t, k, rfl⟩ := hrow g' e; exact ⟨cs, _, k, by decide⟩)
                have kg3 : Blk W3 g (tkC ta Ua1 um1 uc1 (some ⟨gP, 0, none⟩) m c) 27 := ⟨(hgr.block g F.kg.lt (fun e => by
                  obtain ⟨cs, t, k, rfl⟩ := hrow g e.symm
                  exact absurd (blk_kind k F.kg) (by decide))).trans F.kg.blk⟩
                have hzi : Zo W3 B (some ⟨gi, 0, none⟩) 1 1 [ti] := hkz (zo_block hgiB kI.blk (Nat.le_refl _) (by simp [maxLen]) rfl rfl rfl)
                have own3 : OwnT W3 B Ua1 um1 uc1 tl A9 (m + 1) c9 (insL pl ((⟨ti, x.1.i, [ti]⟩ : Pn), (some ⟨gi, 0, none⟩, 1)) L) := ⟨hkz F.own.u, rp, fun y hy => by
                  rcases mem_insP7.1 hy with rfl | hy
                  · exact hzi
                  · exact hkz (F.own.q y hy), qd_iff.2 (ap_ins (qd_iff.1 F.own.qd) (fun y hy g' h1 h2 => by
                    cases h1
                    exact absurd (hfi y hy _ h2) (Nat.lt_irrefl _))), fun y hy g' h1 h2 => by
                  rcases mem_insP7.1 hy with rfl | hy
                  · cases h1
                    exact absurd (hfu _ h2) (Nat.lt_irrefl _)
                  · exact F.own.ud y hy g' h1 h2⟩
                have hb3 := F.b.trans bb
                clear hgr bb hrow hkz hzi rp
                refine hK.out _ _ J (fun _ => ?_)
                clear hK K
                try simp only [Act.put, qA, qB, qC, qD, qE, qF]
                refine wpAnyH_take (i := 20) (v := .pointer (some ⟨g, 0, none⟩)) rfl (by kernel_rfl) (by kernel_rfl) (by kernel_rfl) (fun _ _ _ h => nomatch h.1) (.inl ⟨by rfl, fun V hV => by go_simp⟩) J ?_
                try simp only [Act.put, qA, qB, qC, qD, qE, qF]
                refine wpAnyH_take (i := 21) (v := .pointer (some ⟨g, 2, none⟩)) rfl (by kernel_rfl) (by kernel_rfl) (by kernel_rfl) (fun _ _ _ h => nomatch h.1) (.inl ⟨by rfl, fun V hV => by go_simp⟩) J ?_
                try simp only [Act.put, qA, qB, qC, qD, qE, qF]
                refine wpAnyH_ready (rs := [22]) (by kernel_rfl) (by simp) ?_
                refine AllReadyH.cons rfl (fun K hK => ?_) AllReadyH.nil
                try simp only [Act.put, qA, qB, qC, qD, qE, qF]
                have q0 : W3.cell? ⟨g, 2, none⟩ = some (.slice (some ⟨gP, 0, none⟩) m c) := kg3.cell 2
                have f0 := kg3.frozen 2
                go_simp
                clear q0 f0
                have n4 : But g W3 (W3.setCell ⟨g, 2, none⟩ (.slice A9 (m + 1) c9)) := (But.refl g W3).setCell (p := ⟨g, 2, none⟩) (.inl rfl) _
                have own4 := own3.kind n4 kg3 (by decide) (by decide)
                have kg4 := kg3.set_ 2 (.slice A9 (m + 1) c9)
                have hb4 := hb3.trans (n4.below _ hBg (Nat.le_trans hBV hb3.size))
                generalize W3.setCell ⟨g, 2, none⟩ (.slice A9 (m + 1) c9) = W4 at own4 kg4 hb4 ⊢
                refine hK.out _ _ J (fun _ => ?_)
                clear hK K
                try simp only [Act.put, qA, qB, qC, qD, qE, qF]
                refine wpAnyH_done (by kernel_rfl) ?_ _
                refine ⟨rfl, ?_⟩
                clear J
                go_wp2_with fail
                refine bodyPost_ret (results_tmp2 rfl _ _ _) rfl ?_
                have hnames : (insL pl ((⟨ti, x.1.i, [ti]⟩ : Pn), (some ⟨gi, 0, none⟩, 1)) L).map (·.1) = insL pl ⟨ti, x.1.i, [ti]⟩ P := by rw [ins_names, HPL.out.2.1]
                have hcn : cntT (insL pl ⟨ti, x.1.i, [ti]⟩ P) = cntT P + 1 := cnt_ins
                exact ⟨rfl, hb4, fun _ => ⟨Ua1, um1, uc1, A9, m + 1, c9, _, kg4, own4.tk (by rw [HZU.out]; exact HTL.out (by trivial)) hm7 (fun y hy => by
                  have := cnt_le (P := insL pl ⟨ti, x.1.i, [ti]⟩ P) (x := y.1) (by rw [← hnames]; exact List.mem_map.2 ⟨y, hy, rfl⟩)
                  omega) (by rw [thr_cnt, hnames]; omega), hnames.trans (by rw [HPE.out]), own4⟩⟩
      · have hne : (te != 0) = true := by simpa using he
        rw [if_neg he]
        clear HTL h6 h8
        have HE := Lib.hid he
        clear he
        go_enter Tryz.func59, Tryz.ntmps59
        go_wp2_with (first
          | (refine TK.out.mono ?_
             clear TK
             rintro e w1 ⟨Ua1, um1, uc1, a1, l1, id1, er1, rfl, kg1, zu1, hv, nb⟩
             obtain ⟨rfl, rfl, rfl, rfl⟩ : ta = a1 ∧ tl = l1 ∧ ti = id1 ∧ te = er1 := by simpa using hv
             clear hv))
        refine bodyPost_ret (results_tmp2 rfl _ _ _) rfl ?_
        exact ⟨rfl, nb.below _ hBg hBV, fun h => absurd h HE.out⟩
end Go.Proofs.YtlelhhgggnjndaaGreat
