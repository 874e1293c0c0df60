/-
  task.bequeath, walked.
-/
import Derived.Test.YtlelhhgggnjndaaGreatQTpB
namespace Go.Proofs.YtlelhhgggnjndaaGreat
open Go.RowKit Go.Shelf
set_option linter.unusedVariables false
set_option linter.unusedSimpArgs false
structure BqS (V : World) (B g gP c : Nat) (a : Int) (Ua : Option Addr) (um uc : Nat) (U : List Int) (m : Nat) (L : List Pw) (W : World) : Prop where
  k : Blk W g (tkC a Ua um uc (some ⟨gP, 0, none⟩) m c) 27
  o : OwnT W B Ua um uc U (some ⟨gP, 0, none⟩) m c L
  b : Below B V W
theorem BqS.step {V : World} {B g gP c : Nat} {a : Int} {Ua : Option Addr} {um uc : Nat} {U : List Int} {m : Nat} {L : List Pw} {W W' : World} (h : BqS V B g gP c a Ua um uc U m L W) (hB : B ≤ W.heap.size) (bb : Below W.heap.size W W') : BqS V B g gP c a Ua um uc U m L W' := ⟨h.k.below bb h.k.lt, h.o.below bb (Nat.le_refl _), h.b.trans (bb.mono hB)⟩
def BqR (g pb : Nat) (cs : Array Value) (x : Pw) (V : World) : Prop := Blk V g cs 27 ∧ Blk V pb (prC x) 49
theorem BqR.step {g pb : Nat} {cs : Array Value} {x : Pw} {V V' : World} (h : BqR g pb cs x V) (bb : Below V.heap.size V V') : BqR g pb cs x V' := ⟨h.1.below bb h.1.lt, h.2.below bb h.2.lt⟩
structure BqI (n m : Nat) (L : List Pw) : Prop where
  l : L.length = m
  u : (idsP L).Pairwise (· < ·)
  c : runB L 1 = true → clm L n 1 = true
  t : ∀ x ∈ L, x.1.t.length ≤ 1000000
theorem BqI.step {n m k : Nat} {L : List Pw} (h : BqI n m L) (hk : k < L.length) : BqI n m (L.set k (reP (L.getD k pw0) (heirF L n (L.getD k pw0).1.i))) :=
  ⟨by rw [List.length_set]; exact h.l, by rw [ids_set hk]; exact h.u, clm_step hk h.u h.c, fun x hx => by
    rcases List.mem_or_eq_of_mem_set hx with h1 | rfl
    · exact h.t x h1
    · exact h.t (L.getD k pw0) (by rw [show L.getD k pw0 = L[k] by simp [List.getD, hk]]; exact List.getElem_mem hk)⟩
theorem OwnT.ps {V : World} {B um uc m c : Nat} {Ua A : Option Addr} {U : List Int} {L : List Pw} (h : OwnT V B Ua um uc U A m c L) (hq : ∀ x ∈ L, x.1.t.length ≤ 1000000) : Ps V V.heap.size A L := ⟨fun k hk => h.p.rs k hk, fun x hx => zo_tr (h.q x hx) (hq x hx)⟩
theorem free_len (a : Int) (U : List Int) (x : Int) : (freeV a U x).2.1.length ≤ U.length := by
  unfold freeV
  split
  · split
    · show (delP U x).length ≤ _
      unfold delP
      rw [List.length_append, List.length_take, List.length_drop]
      omega
    · simp
  · simp
set_option maxRecDepth 100000 in
set_option maxHeartbeats 8000000 in
theorem bequeath_tk (n : Nat) (a : Int) (V : World) (B g : Nat) (Ua : Option Addr) (um uc : Nat) (U : List Int) (gP m c : Nat) (L : List Pw) (p : Nat) (own : OwnT V B Ua um uc U (some ⟨gP, 0, none⟩) m c L) (kg : Blk V g (tkC a Ua um uc (some ⟨gP, 0, none⟩) m c) 27) (hBg : B ≤ g) (hpl : p < L.length) (hu6 : um ≤ 1000000) (hm6 : m ≤ 100000) (hI : BqI n m L) (E : Int × List Int × List Pn) (hE : E = bqG m (a, U, bqF n (L.getD p pw0).1.i m 0 (L.map (·.1)))) :
    Calls Tryz.prog 70 #[.pointer (some ⟨g, 0, none⟩), .int .i64 p] V fun e W => e = .returned (.tuple #[]) ∧ ∃ Ua' um' uc' m' L', BqS V B g gP c E.1 Ua' um' uc' E.2.1 m' L' W ∧ L'.map (·.1) = E.2.2 ∧ um' ≤ 1000000 ∧ m' ≤ m := by
  have hBV : B ≤ V.heap.size := Nat.le_trans hBg (Nat.le_of_lt kg.lt)
  have hpm : (p : Int) < (m : Int) := by have := hI.l; omega
  obtain ⟨b7, off7, he7, hb7, hc7⟩ := own.p.rs p hpl
  cases he7
  rw [Nat.zero_add] at hc7
  have t0 : V.cell? ⟨gP, p * 3, none⟩ = some (.int .i64 (L.getD p pw0).1.i) := hc7 0 _ rfl
  have q2 : V.cell? ⟨g, 2, none⟩ = some (.slice (some ⟨gP, 0, none⟩) m c) := kg.cell 2
  generalize (L.getD p pw0).1.i = pid at t0 hE
  have HJ0 := Lib.hid (show BqS V B g gP c a Ua um uc U m L V from ⟨kg, own, Below.refl _ _⟩)
  have HI0 := Lib.hid hI
  have HE0 := Lib.hid (show E = bqG m (a, U, bqF n pid (m - 0) 0 (L.map (·.1))) from hE)
  clear own kg hc7 hb7 hI hE hpl
  go_enter Tryz.func70, Tryz.ntmps70
  go_wp2_with fail
  clear q2 t0
  go_loopw [22] (fun i wr' => ∃ (k : Nat) (L1 : List Pw) (W : World), W = wr' ∧ k ≤ m ∧ i = .int .i64 k ∧ Hid (E = bqG m (a, U, bqF n pid (m - k) k (L1.map (·.1)))) ∧ Hid (BqI n m L1) ∧ Hid (BqS V B g gP c a Ua um uc U m L1 W)) (fun i _ => m - (intOf i).toNat)
  case atStart => exact ⟨0, L, _, rfl, Nat.zero_le _, rfl, HE0, HI0, HJ0⟩
  case round =>
    clear HE0 HI0 HJ0
    obtain ⟨k, L1, W, hW, hk, rfl, HE, HI, HJ⟩ := hrel
    subst hW
    have J := HJ.out
    clear HJ
    have hBW : B ≤ W.heap.size := Nat.le_trans hBV J.b.size
    by_cases hlt : k < m
    · have hlt' : (k : Int) < (m : Int) := by omega
      have hkl : k < L1.length := by have := HI.out.l; omega
      obtain ⟨b7, off7, he7, hb7, hc7⟩ := J.o.p.rs k hkl
      cases he7
      rw [Nat.zero_add] at hc7
      have hE := HE.out
      rw [show m - k = (m - (k + 1)) + 1 by omega, bqF, bqStep_nm hkl] at hE
      have HX := Lib.hid (show ∃ x, L1.getD k pw0 = x from ⟨_, rfl⟩)
      obtain ⟨x, hx⟩ := HX.out
      have HP9 := Lib.hid (J.o.setP hkl)
      rw [hx] at hc7 hE
      have hs3 : (prC x).size = 3 := pr_size x
      clear HX HE HP9
      have HXL := Lib.hid (And.intro hx hkl)
      clear hx hkl
      cases hq : (x.1.p == pid)
      · rw [hq, if_neg (by simp)] at hE
        have HE := Lib.hid hE
        clear hE
        go_wp2_with (first
          | (refine wpList_load_mid rfl 49 (.tmp 25) rfl gP (k * 3) rfl (prC x).toList _ hc7 Tryz.underlying49 rfl (pr_infL x) ?_)
          | (refine wpList_store_blk rfl 49 (.tmp 6) (.tmp 26) rfl W.heap.size (prC pw0) (prC x) 49 rfl rfl (Blk.new _ _ _) rfl (pr_inf x) (pr_one x) ?_
             intro W1 k4 n4
             have bb : Below W.heap.size W W1 := ((Below.refl _ W).alloc (Nat.le_refl _) _).trans (n4.below _ (Nat.le_refl _) (by simp))
             have J1 := J.step hBW bb
             have x1 : W1.cell? ⟨W.heap.size, 1, none⟩ = some (.int .i64 x.1.p) := k4.cell 1
             clear n4 bb J))
        go_roundw
        case rel => exact ⟨k + 1, L1, _, rfl, by omega, by go_num, HE, HI, Lib.hid J1⟩
        case measure => simp [intOf]; omega
      · rw [hq, if_pos rfl] at hE
        have HE := Lib.hid hE
        clear hE
        go_wp2_with (first
          | (refine wpList_load_mid rfl 49 (.tmp 25) rfl gP (k * 3) rfl (prC x).toList _ hc7 Tryz.underlying49 rfl (pr_infL x) ?_)
          | (refine wpList_store_blk rfl 49 (.tmp 6) (.tmp 26) rfl W.heap.size (prC pw0) (prC x) 49 rfl rfl (Blk.new _ _ _) rfl (pr_inf x) (pr_one x) ?_
             intro W1 k4 n4
             have bb : Below W.heap.size W W1 := ((Below.refl _ W).alloc (Nat.le_refl _) _).trans (n4.below _ (Nat.le_refl _) (by simp))
             have J1 := J.step hBW bb
             have hs1 := bb.size
             have x1 : W1.cell? ⟨W.heap.size, 1, none⟩ = some (.int .i64 x.1.p) := k4.cell 1
             clear n4 bb))
        obtain ⟨pb, hpb⟩ : ∃ pb, W.heap.size = pb := ⟨_, rfl⟩
        simp only [hpb] at k4 x1 ⊢
        have HH := Lib.hid (heir_tk n a Ua um uc (some ⟨gP, 0, none⟩) m c L1 x.1.i W1.drew ((J1.step (Nat.le_trans hBW hs1) (Below.refl _ _).drew).o.ps HI.out.t) HI.out.l.symm (by omega) HI.out.u HI.out.c)
        have JD : BqR g pb (tkC a Ua um uc (some ⟨gP, 0, none⟩) m c) x W1.drew := ⟨J1.k.drew, k4.drew⟩
        have J2 := J1.step (Nat.le_trans hBW hs1) (Below.refl _ _).drew
        have hBW1 := Nat.le_trans hBW hs1
        have HPB := Lib.hid (show gP < pb by rw [← hpb]; obtain ⟨cur, kP⟩ := roP_blk J.o.p rfl; exact kP.lt)
        clear k4 x1 J1 hpb hs1 hBW J
        obtain ⟨hv, hhv⟩ : ∃ v, heirF L1 n x.1.i = v := ⟨_, rfl⟩
        rw [hhv] at HH HE
        have HHV := Lib.hid hhv
        clear hhv
        unfold tkV at HH
        refine region_cutP ?_
        refine wp_region_held_drew (S := BqR g pb (tkC a Ua um uc (some ⟨gP, 0, none⟩) m c) x) (by kernel_rfl) JD (fun _ => ?_)
        refine wpAnyH_take (i := 0) (v := .pointer (some ⟨g, 0, none⟩)) rfl (by kernel_rfl) (by kernel_rfl) (by kernel_rfl) (fun _ _ _ h => nomatch h.1) (.inl ⟨by rfl, fun V hV => by go_simp⟩) JD ?_
        try simp only [Act.put, qA, qB, qC, qD, qE, qF]
        refine wpAnyH_take (i := 1) (v := .pointer (some ⟨g, 0, none⟩)) rfl (by kernel_rfl) (by kernel_rfl) (by kernel_rfl) (fun _ _ _ h => nomatch h.1) (.inl ⟨by rfl, fun V hV => by go_simp⟩) JD ?_
        try simp only [Act.put, qA, qB, qC, qD, qE, qF]
        refine wpAnyH_take (i := 2) (v := .pointer (some ⟨g, 2, none⟩)) rfl (by kernel_rfl) (by kernel_rfl) (by kernel_rfl) (fun _ _ _ h => nomatch h.1) (.inl ⟨by rfl, fun V hV => by go_simp⟩) JD ?_
        try simp only [Act.put, qA, qB, qC, qD, qE, qF]
        refine wpAnyH_take (i := 3) (v := .slice (some ⟨gP, 0, none⟩) m c) rfl (by kernel_rfl) (by kernel_rfl) (by kernel_rfl) (fun _ _ _ h => nomatch h.1) (.inl ⟨by rfl, fun V hV => by have c2 : V.cell? ⟨g, 2, none⟩ = some (.slice (some ⟨gP, 0, none⟩) m c) := hV.1.cell 2; go_simp⟩) JD ?_
        try simp only [Act.put, qA, qB, qC, qD, qE, qF]
        refine wpAnyH_take (i := 4) (v := .int .i64 k) rfl (by kernel_rfl) (by kernel_rfl) (by kernel_rfl) (fun _ _ _ h => nomatch h.1) (.inl ⟨by rfl, fun V hV => by go_simp⟩) JD ?_
        try simp only [Act.put, qA, qB, qC, qD, qE, qF]
        refine wpAnyH_take (i := 5) (v := .pointer (some ⟨g, 0, none⟩)) rfl (by kernel_rfl) (by kernel_rfl) (by kernel_rfl) (fun _ _ _ h => nomatch h.1) (.inl ⟨by rfl, fun V hV => by go_simp⟩) JD ?_
        try simp only [Act.put, qA, qB, qC, qD, qE, qF]
        refine wpAnyH_take (i := 6) (v := .pointer (some ⟨g, 0, none⟩)) rfl (by kernel_rfl) (by kernel_rfl) (by kernel_rfl) (fun _ _ _ h => nomatch h.1) (.inl ⟨by rfl, fun V hV => by go_simp⟩) JD ?_
        try simp only [Act.put, qA, qB, qC, qD, qE, qF]
        refine wpAnyH_take (i := 7) (v := .agg (tkC a Ua um uc (some ⟨gP, 0, none⟩) m c)) rfl (by kernel_rfl) (by kernel_rfl) (by kernel_rfl) (fun _ _ _ h => nomatch h.1) (yieldsIf_blk (by rfl) 27 (.tmp 37) rfl g rfl (tkC a Ua um uc (some ⟨gP, 0, none⟩) m c) 27 _ (fun _ h => h.1) Tryz.underlying27 rfl (tk_inf _ _ _ _ _ _ _)) JD ?_
        try simp only [Act.put, qA, qB, qC, qD, qE, qF]
        refine wpAnyH_take (i := 8) (v := .pointer (some ⟨pb, 0, none⟩)) rfl (by kernel_rfl) (by kernel_rfl) (by kernel_rfl) (fun _ _ _ h => nomatch h.1) (.inl ⟨by rfl, fun V hV => by go_simp⟩) JD ?_
        try simp only [Act.put, qA, qB, qC, qD, qE, qF]
        refine wpAnyH_take (i := 9) (v := .int .i64 x.1.i) rfl (by kernel_rfl) (by kernel_rfl) (by kernel_rfl) (fun _ _ _ h => nomatch h.1) (.inl ⟨by rfl, fun V hV => by have x0 : V.cell? ⟨pb, 0, none⟩ = some (.int .i64 x.1.i) := hV.2.cell 0; go_simp⟩) JD ?_
        try simp only [Act.put, qA, qB, qC, qD, qE, qF]
        refine wpAnyH_ready (rs := [10]) (by kernel_rfl) (by simp) ?_
        refine AllReadyH.cons rfl (fun K hK => ?_) AllReadyH.nil
        try simp only [Act.put, qA, qB, qC, qD, qE, qF]
        go_simp
        refine HH.out.mono ?_
        clear HH
        rintro e w2 ⟨rfl, bb⟩
        have JD := JD.step bb
        have J3 := J2.step hBW1 bb
        have hBW2 := Nat.le_trans hBW1 bb.size
        clear bb J2
        refine hK.out _ _ JD (fun _ => ?_)
        clear hK K
        try simp only [Act.put, qA, qB, qC, qD, qE, qF]
        refine wpAnyH_take (i := 11) (v := .pointer (some ⟨gP, k * 3, none⟩)) rfl (by kernel_rfl) (by kernel_rfl) (by kernel_rfl) (fun _ _ _ h => nomatch h.1) (.inl ⟨by rfl, fun V hV => by go_simp⟩) JD ?_
        try simp only [Act.put, qA, qB, qC, qD, qE, qF]
        refine wpAnyH_take (i := 12) (v := .pointer (some ⟨gP, k * 3 + 1, none⟩)) rfl (by kernel_rfl) (by kernel_rfl) (by kernel_rfl) (fun _ _ _ h => nomatch h.1) (.inl ⟨by rfl, fun V hV => by go_simp⟩) JD ?_
        try simp only [Act.put, qA, qB, qC, qD, qE, qF]
        obtain ⟨b8, off8, he8, _, hc8⟩ := J3.o.p.rs k HXL.out.2
        cases he8
        rw [Nat.zero_add, HXL.out.1] at hc8
        have r1 : w2.cell? ⟨gP, k * 3 + 1, none⟩ = some (.int .i64 x.1.p) := hc8 1 _ rfl
        have f1 := World.ownsRow.frozenAt J3.o.p (k * 3 + 1)
        have n5 : But gP w2 (w2.setCell ⟨gP, k * 3 + 1, none⟩ (.int .i64 hv)) := (But.refl gP w2).setCell (p := ⟨gP, k * 3 + 1, none⟩) (.inl rfl) _
        have HSP := Lib.hid (J3.o.setP HXL.out.2 hv)
        have HKP := Lib.hid (roP_blk J3.o.p rfl)
        have HN5 := Lib.hid n5
        clear n5 hc8
        refine wpAnyH_ready (rs := [13]) (by kernel_rfl) (by simp) ?_
        refine AllReadyH.cons rfl (fun K hK => ?_) AllReadyH.nil
        try simp only [Act.put, qA, qB, qC, qD, qE, qF]
        go_simp
        have hg1 : ¬ g = gP := fun e => by obtain ⟨cur, kP⟩ := HKP.out; have h9 := JD.1; rw [e] at h9; exact absurd (blk_kind h9 kP) (by decide)
        have hg2 : B ≤ gP := by rcases J3.o.p.form with ⟨h, _⟩ | ⟨g9, h, h2, _⟩
                                · cases h
                                · cases h; exact h2
        have hpbw : ¬ pb = gP := fun e => by have h9 := HPB.out; omega
        have JE : BqR g pb (tkC a Ua um uc (some ⟨gP, 0, none⟩) m c) x (w2.setCell ⟨gP, k * 3 + 1, none⟩ (.int .i64 hv)) := ⟨HN5.out.blk7 JD.1 hg1, HN5.out.blk7 JD.2 hpbw⟩
        have J4 : BqS V B g gP c a Ua um uc U m (L1.set k (reP x hv)) (w2.setCell ⟨gP, k * 3 + 1, none⟩ (.int .i64 hv)) := ⟨JE.1, by have h9 := HSP.out; rw [HXL.out.1] at h9; exact h9, J3.b.trans (HN5.out.below B hg2 hBW2)⟩
        refine hK.out _ _ JE (fun _ => ?_)
        clear hK K
        try simp only [Act.put, qA, qB, qC, qD, qE, qF]
        refine wpAnyH_done (by kernel_rfl) ?_ _
        refine ⟨rfl, ?_⟩
        have HI2 : BqI n m (L1.set k (reP x hv)) := by have h9 := HI.out.step HXL.out.2; rw [HXL.out.1, HHV.out] at h9; exact h9
        go_wp2_with fail
        go_roundw
        case rel => exact ⟨k + 1, _, _, rfl, by omega, by go_num, HE, Lib.hid HI2, Lib.hid J4⟩
        case measure => simp [intOf]; omega
    · obtain rfl : k = m := by omega
      have q2 : W.cell? ⟨g, 2, none⟩ = some (.slice (some ⟨gP, 0, none⟩) k c) := J.k.cell 2
      have HE1 := Lib.hid (show E = bqG k (a, U, L1.map (·.1)) by have := HE.out; rw [Nat.sub_self] at this; exact this)
      have HT := Lib.hid HI.out.t
      clear HE HI
      go_wp2_with fail
      have HJ := Lib.hid J
      clear q2 J
      go_loopw [7] (fun i wr' => ∃ (j : Nat) (a1 : Int) (Ua1 : Option Addr) (um1 uc1 : Nat) (U1 : List Int) (m1 : Nat) (L2 : List Pw) (W : World), W = wr' ∧ j ≤ m1 ∧ i = .int .i64 ((j : Int) - 1) ∧ um1 ≤ 1000000 ∧ m1 ≤ k ∧ Hid (E = bqG j (a1, U1, L2.map (·.1))) ∧ Hid (BqS V B g gP c a1 Ua1 um1 uc1 U1 m1 L2 W)) (fun i _ => (intOf i + 1).toNat)
      case atStart => exact ⟨k, a, Ua, um, uc, U, k, L1, _, rfl, Nat.le_refl _, by go_num, hu6, Nat.le_refl _, HE1, HJ⟩
      case round =>
        clear HE1 HJ HT
        obtain ⟨j, a1, Ua1, um1, uc1, U1, m1, L2, W, hW, hj, rfl, hum, hmk, HE, HJ⟩ := hrel
        subst hW
        have J := HJ.out
        clear HJ
        have hBW : B ≤ W.heap.size := Nat.le_trans hBV J.b.size
        rcases Nat.eq_zero_or_pos j with h0 | h0
        · subst h0
          have HE1 := Lib.hid (show E = (a1, U1, L2.map (·.1)) from HE.out)
          clear HE
          go_wp2_with fail
          refine bodyPost_end (results_none rfl _ _ _) rfl ?_
          exact ⟨rfl, Ua1, um1, uc1, m1, L2, by rw [HE1.out]; exact J, by rw [HE1.out], hum, hmk⟩
        · obtain ⟨d, hd⟩ : ∃ d, j = d + 1 := ⟨j - 1, by omega⟩
          subst hd
          have hi : ((d + 1 : Nat) : Int) - 1 = (d : Int) := by omega
          simp only [hi]
          clear hi h0
          have hdm : (d : Int) < (m1 : Int) := by omega
          have hd0 : decide ((0 : Int) ≤ (d : Int)) = true := by simp
          have hdl : d < L2.length := by have := J.o.p.len; omega
          obtain ⟨b7, off7, he7, hb7, hc7⟩ := J.o.p.rs d hdl
          cases he7
          rw [Nat.zero_add] at hc7
          have hE := HE.out
          rw [bqG] at hE
          simp only [show (L2.map (·.1)).getD d pn0 = (L2.getD d pw0).1 by simp [List.getD, hdl]] at hE
          have RM := Lib.hid (fun (W1 : World) (J1 : BqS V B g gP c a1 Ua1 um1 uc1 U1 m1 L2 W1) => remove_tk a1 W1 B g Ua1 um1 uc1 U1 gP m1 c L2 d J1.o J1.k hBg hdl hum (by omega))
          have HDL := Lib.hid hdl
          generalize L2.getD d pw0 = x at hc7 hE RM
          have q2 : W.cell? ⟨g, 2, none⟩ = some (.slice (some ⟨gP, 0, none⟩) m1 c) := J.k.cell 2
          have hs3 : (prC x).size = 3 := pr_size x
          have EN := Lib.hid (fun (W1 : World) => ended_tk x W1)
          obtain ⟨l0, hl0⟩ : ∃ b, (x.1.t.length == 0) = b := ⟨_, rfl⟩
          obtain ⟨p0, hp0⟩ : ∃ b, (x.1.p == 0) = b := ⟨_, rfl⟩
          rw [hl0] at EN hE
          rw [hp0] at hE
          unfold prV at EN
          clear HE hl0 hdl
          cases l0
          · have HE := Lib.hid (show E = bqG d (a1, U1, L2.map (·.1)) from hE)
            clear hE hp0 RM
            go_wp2_with (first
              | (refine wpList_load_mid rfl 49 (.tmp 60) rfl gP (d * 3) rfl (prC x).toList _ hc7 Tryz.underlying49 rfl (pr_infL x) ?_)
              | (refine wpList_store_blk rfl 49 (.tmp 8) (.tmp 61) rfl W.heap.size (prC pw0) (prC x) 49 rfl rfl (Blk.new _ _ _) rfl (pr_inf x) (pr_one x) ?_
                 intro W1 k4 n4
                 have bb : Below W.heap.size W W1 := ((Below.refl _ W).alloc (Nat.le_refl _) _).trans (n4.below _ (Nat.le_refl _) (by simp))
                 have J1 := J.step hBW bb
                 have hBW1 := Nat.le_trans hBW bb.size
                 have HUL := Lib.hid J1.o.u.len
                 clear n4 bb J q2 hc7)
              | (refine wpList_load_row rfl 49 (.tmp 8) rfl W.heap.size rfl 49 (prC x) (0, 0) _ k4.blk Tryz.underlying49 rfl (pr_inf x) ?_)
              | (refine (EN.out _).mono ?_
                 clear EN
                 rintro e w3 ⟨rfl, bb⟩
                 have J2 := J1.step hBW1 bb
                 have x1 : w3.cell? ⟨W.heap.size, 1, none⟩ = some (.int .i64 x.1.p) := (k4.below bb k4.lt).cell 1
                 clear bb J1 k4
                 go_wp2_with fail))
            go_roundw
            case rel => exact ⟨d, a1, Ua1, um1, uc1, U1, m1, L2, _, rfl, by omega, by go_num, hum, hmk, HE, Lib.hid J2⟩
            case measure => first | (simp [intOf]; omega) | simp [intOf]
          · cases p0
            · have HE := Lib.hid (show E = bqG d (a1, U1, L2.map (·.1)) from hE)
              clear hE RM
              go_wp2_with (first
                | (refine wpList_load_mid rfl 49 (.tmp 60) rfl gP (d * 3) rfl (prC x).toList _ hc7 Tryz.underlying49 rfl (pr_infL x) ?_)
                | (refine wpList_store_blk rfl 49 (.tmp 8) (.tmp 61) rfl W.heap.size (prC pw0) (prC x) 49 rfl rfl (Blk.new _ _ _) rfl (pr_inf x) (pr_one x) ?_
                   intro W1 k4 n4
                   have bb : Below W.heap.size W W1 := ((Below.refl _ W).alloc (Nat.le_refl _) _).trans (n4.below _ (Nat.le_refl _) (by simp))
                   have J1 := J.step hBW bb
                   have hBW1 := Nat.le_trans hBW bb.size
                   have HUL := Lib.hid J1.o.u.len
                   clear n4 bb J q2 hc7)
                | (refine wpList_load_row rfl 49 (.tmp 8) rfl W.heap.size rfl 49 (prC x) (0, 0) _ k4.blk Tryz.underlying49 rfl (pr_inf x) ?_)
                | (refine (EN.out _).mono ?_
                   clear EN
                   rintro e w3 ⟨rfl, bb⟩
                   have J2 := J1.step hBW1 bb
                   have x1 : w3.cell? ⟨W.heap.size, 1, none⟩ = some (.int .i64 x.1.p) := (k4.below bb k4.lt).cell 1
                   clear bb J1 k4
                   go_wp2_with fail))
              go_roundw
              case rel => exact ⟨d, a1, Ua1, um1, uc1, U1, m1, L2, _, rfl, by omega, by go_num, hum, hmk, HE, Lib.hid J2⟩
              case measure => first | (simp [intOf]; omega) | simp [intOf]
            · have HE := Lib.hid (show E = bqG d ((freeV a1 U1 x.1.i).1, (freeV a1 U1 x.1.i).2.1, delL d (L2.map (·.1))) from hE)
              clear hE
              go_wp2_with (first
                | (refine wpList_load_mid rfl 49 (.tmp 60) rfl gP (d * 3) rfl (prC x).toList _ hc7 Tryz.underlying49 rfl (pr_infL x) ?_)
                | (refine wpList_store_blk rfl 49 (.tmp 8) (.tmp 61) rfl W.heap.size (prC pw0) (prC x) 49 rfl rfl (Blk.new _ _ _) rfl (pr_inf x) (pr_one x) ?_
                   intro W1 k4 n4
                   have bb : Below W.heap.size W W1 := ((Below.refl _ W).alloc (Nat.le_refl _) _).trans (n4.below _ (Nat.le_refl _) (by simp))
                   have J1 := J.step hBW bb
                   have hBW1 := Nat.le_trans hBW bb.size
                   have HUL := Lib.hid J1.o.u.len
                   clear n4 bb J q2 hc7)
                | (refine wpList_load_row rfl 49 (.tmp 8) rfl W.heap.size rfl 49 (prC x) (0, 0) _ k4.blk Tryz.underlying49 rfl (pr_inf x) ?_)
                | (refine (EN.out _).mono ?_
                   clear EN
                   rintro e w3 ⟨rfl, bb⟩
                   have J2 := J1.step hBW1 bb
                   have x1 : w3.cell? ⟨W.heap.size, 1, none⟩ = some (.int .i64 x.1.p) := (k4.below bb k4.lt).cell 1
                   clear bb J1 k4
                   go_wp2_with (first
                      | (refine (RM.out _ J2).mono ?_
                         clear RM
                         rintro e w4 ⟨rfl, Ua2, um2, uc2, a2, l2, er, hfv, k5, o5, b5⟩
                         have J5 : BqS V B g gP c a2 Ua2 um2 uc2 l2 (m1 - 1) (delL d L2) w4 := ⟨k5, o5, J2.b.trans b5⟩
                         have HFV := Lib.hid hfv
                         clear k5 o5 b5 hfv J2))))
              have HE2 := Lib.hid (show E = bqG d (a2, l2, (delL d L2).map (·.1)) by rw [HE.out, HFV.out]; congr 2; unfold delL; rw [List.map_append, List.map_take, List.map_drop])
              have hul : um2 ≤ 1000000 := by
                have h1 := free_len a1 U1 x.1.i
                rw [HFV.out] at h1
                have h2 := J5.o.u.len
                have h3 := HUL.out
                simp only at h1
                omega
              go_roundw
              case rel => exact ⟨d, a2, Ua2, um2, uc2, l2, m1 - 1, _, _, rfl, by omega, by go_num, hul, by omega, HE2, Lib.hid J5⟩
              case measure => first | (simp [intOf]; omega) | simp [intOf]
end Go.Proofs.YtlelhhgggnjndaaGreat
