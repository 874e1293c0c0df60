/-
  steps.End.
-/
import Derived.Test.YtolalbpjaebfdaaQScGo
import Derived.Test.YtolalbpjaebfdaaQScEq
namespace Go.Proofs.Ytolalbpjaebfdaa
open Go.RowKit Go.Shelf
set_option linter.unusedVariables false
set_option linter.unusedSimpArgs false
theorem okd_leave {R : List Rn} {K : List Kn} (ok : Okd R K) (i n : Int) : Okd R (leaveN K i n) := by
  unfold leaveN
  split
  · rename_i hc
    obtain ⟨h1, h2, h3⟩ := at_num (fun x : Kn => x.n) ok.uk kn0 hc
    refine ok.setK h1 h2.symm ?_
    exact Nat.le_trans (List.length_filter_le _ _) (ok.q _ h3)
  · exact ok
theorem Zo.ints {w w' : World} {B m c : Nat} {A : Option Addr} {l : List Int} (h : Zo w B A m c l) (i : IntK w w') : Zo w' B A m c l := by
  rcases h.form with ⟨rfl, rfl, rfl, rfl⟩ | ⟨g, rfl, hb, _, cur, hh, h1, h2, h3, h4⟩
  · exact zo_nil _ _
  · exact zo_block hb (i g cur ⟨hh⟩).blk h1 h2 h3 h4 h.len
def ownsN (K : List Kn) (id : Int) : List Int := (K.filter fun x => x.o == id).map (·.n)
theorem ownsF_N (L : List Kw) (id : Int) : ownsF L id = ownsN (L.map (·.1)) id := by
  unfold ownsF ownsN
  rw [List.filter_map, List.map_map]
  rfl
def endF (R : List Rn) (K : List Kn) (k : Nat) (id : Int) : List Rn × List Kn × Int := ((giveAll R K (ownsN K id)).1.set k ⟨id, 2, 0⟩, leaveN (giveAll R K (ownsN K id)).2 id (R.getD k rn0).n, 0)
theorem wpList_storeR {ops : Array Oper} {rest : List Oper} {o : Oper} {a : Act} {w W : World} {Q : Exit → Act → World → Prop} (hgd : o.guard = none) (x y : Operand) (ho : o.op = .store 52 x y)
    (p : Addr) (z : Rn) (hx : a.eval x = .pointer (some p)) (hy : a.eval y = .agg (rnC z)) (hrun : (storeCells p (rnC z).toList 0).run Try.prog w = .ok () W)
    (h : wpList Try.prog ops Q rest (a.put o.dst undef) W) : wpList Try.prog ops Q (o :: rest) a w := wpList_plain hgd fun K hK => wp_op_storeR x y ho p z hx hy hrun (hK _ _ h)
structure EnJ (V : World) (B g gR m1 c1 k : Nat) (R : List Rn) (L : List Kw) (id : Int) (l : List Int) (G : Option Addr) (gm gc gi : Nat) (wr : World) (j : Nat) (R' : List Rn) (A2 : Option Addr) (m2 c2 : Nat) (L' : List Kw) : Prop where
  own : OwnT wr B (some ⟨gR, 0, none⟩) m1 c1 R' A2 m2 c2 L'
  kk : Blk wr g (scC (some ⟨gR, 0, none⟩) m1 c1 A2 m2 c2) 25
  e : (R', L'.map (·.1)) = giveAll R (L.map (·.1)) (l.take j)
  inv : EndI R' (L'.map (·.1)) id (l.drop j)
  rk : R'.getD k rn0 = R.getD k rn0
  len : R'.length = R.length
  wt : ∀ x ∈ L, x.1.n = (R.getD k rn0).n → x ∈ L' ∧ Apart L' x.1.n x ∧ Zo wr B x.2.1 x.1.q.length x.2.2 x.1.q
  wt2 : ∀ y ∈ L', y.1.n = (R.getD k rn0).n → y ∈ L
  z : Zo wr V.heap.size G gm gc l
  bi : Blk wr gi #[.int .i64 id] 3
  b : Below B V wr
theorem EnJ.step {V : World} {B g gR m1 c1 k : Nat} {R : List Rn} {L : List Kw} {id : Int} {l : List Int} {G : Option Addr} {gm gc gi : Nat} {wr : World} {j : Nat} {R' : List Rn} {A2 : Option Addr} {m2 c2 : Nat} {L' : List Kw} (h : EnJ V B g gR m1 c1 k R L id l G gm gc gi wr j R' A2 m2 c2 L') (hj : j < l.length)
    (hk : k < R.length) (hi : (R.getD k rn0).i = id) (hw : ∀ n ∈ l, n ≠ (R.getD k rn0).n)
    {w' : World} {R2 : List Rn} {A4 : Option Addr} {m4 c4 : Nat} {L2 : List Kw} (gv : GvL wr w' B g (some ⟨gR, 0, none⟩) m1 c1 R' L' (l.getD j 0) R2 A4 m4 c4 L2) : EnJ V B g gR m1 c1 k R L id l G gm gc gi w' (j + 1) R2 A4 m4 c4 L2 := by
  have hd : l.drop j = l.getD j 0 :: l.drop (j + 1) := drop_consZ l j hj
  have hin := h.inv
  rw [hd] at hin
  have hst := hin.step
  have ee := gv.e
  have e1 : R2 = (giveN R' (L'.map (·.1)) (l.getD j 0)).1 := congrArg Prod.fst ee
  have e2 : L2.map (·.1) = (giveN R' (L'.map (·.1)) (l.getD j 0)).2 := congrArg Prod.snd ee
  rw [← e1, ← e2] at hst
  have hlj : l.getD j 0 ∈ l := by rw [show l.getD j 0 = l[j] by simp [List.getD, hj]]; exact List.getElem_mem _
  refine ⟨gv.own, gv.k, ?_, hst.1, (hst.2.2.2.1 k (by rw [h.rk]; exact hi) (by rw [h.len]; exact hk)).trans h.rk, hst.2.2.1.trans h.len, fun x hx hxn => ?_, fun y hy hyn => ?_, h.z.ints gv.i, gv.i gi _ h.bi, h.b.trans gv.b⟩
  · rw [take_snocI hj, giveAll_snoc, ← h.e]
    exact ee
  · obtain ⟨h1, h2, h3⟩ := h.wt x hx hxn
    have hne : x.1.n ≠ l.getD j 0 := fun e => hw _ hlj (by rw [← e]; exact hxn)
    refine ⟨gv.other x h1 hne, fun y hy hyn a ea => ?_, h3.ints gv.i⟩
    obtain ⟨z, hz, hzn, hza⟩ := gv.from_ y hy
    obtain ⟨a', ea', eb⟩ := hza a ea
    rw [← eb]
    exact h2 z hz (by rw [hzn]; exact hyn) a' ea'
  · 
    have hy1 : y.1 ∈ L2.map (·.1) := List.mem_map.2 ⟨y, hy, rfl⟩
    obtain ⟨z, hz, hzn, _⟩ := gv.from_ y hy
    have hzL := h.wt2 z hz (by rw [hzn]; exact hyn)
    have hne : z.1.n ≠ l.getD j 0 := fun e => hw _ hlj (by rw [← e, hzn]; exact hyn)
    have hz2 := gv.other z hz hne
    have huk : UpK L2 := by show (numsK L2).Pairwise (· < ·); rw [numsK_names]; exact hst.1.ok.uk
    have : y = z := uniq numK (L := L2) huk hy hz2 hzn.symm
    rw [this]; exact hzL
set_option maxRecDepth 100000 in
set_option maxHeartbeats 8000000 in
theorem end1_sc (gi : Nat) (id : Int) (k : Nat) (R : List Rn) (K : List Kn) (ok : Okd R K) (he : EndI R K id (ownsN K id)) (hk : k < R.length) (hi : (R.getD k rn0).i = id) (hw : ∀ n ∈ ownsN K id, n ≠ (R.getD k rn0).n) :
    ChgR (gi + 1) 41 #[.pointer (some ⟨gi, 0, none⟩)] (fun V => Blk V gi #[.int .i64 id] 3) none false false R K k (endF R K k id) := by
  intro V B g gR m1 c1 A2 m2 c2 L hI _ _ hK own kg hBg hNB
  subst hK
  have hgL : g < V.heap.size := kg.lt
  have hIl : gi < V.heap.size := hI.lt
  have hBV : B ≤ V.heap.size := Nat.le_trans hBg (Nat.le_of_lt hgL)
  have sc := own.sc' ok
  have HOW := Lib.hid (fun (V' : World) (hV : Below V.heap.size V V') => owned_sc (some ⟨gR, 0, none⟩) m1 c1 R A2 m2 c2 L id V' (sc.on hV))
  have hlen := ownsF_len L id
  have hL2 := sc.len2
  have hL6 := sc.lim2
  unfold endF
  rw [← ownsF_N] at he hw ⊢
  generalize ownsF L id = l at HOW he hw hlen ⊢
  obtain ⟨r, hr⟩ : ∃ r : List Rn × List Kn × Int, r = ((giveAll R (L.map (·.1)) l).1.set k ⟨id, 2, 0⟩, leaveN (giveAll R (L.map (·.1)) l).2 id (R.getD k rn0).n, 0) := ⟨_, rfl⟩
  rw [← hr]
  have HR := Lib.hid hr
  have HE := Lib.hid he
  have HW := Lib.hid hw
  have HK := Lib.hid (And.intro hk hi)
  have HOWN := Lib.hid own
  have hlm : l.length ≤ 1000000 := by omega
  clear hr he hw sc ok own hk hi hlen hL2 hL6
  unfold scV at HOW
  go_enter Try.func41, Try.ntmps41
  go_wp2_with fail
  try simp only [Act.put]
  refine region_cutP ?_
  have Jd : Below V.heap.size V V.drew := (Below.refl _ _).drew
  refine wp_region_held_drew (S := (fun V' => Below V.heap.size V V')) (by kernel_rfl) Jd (fun _ => ?_)
  refine wpAnyH_take (i := 0) (v := .pointer (some ⟨g, 0, none⟩)) rfl (by kernel_rfl) (by kernel_rfl) (by kernel_rfl) (fun _ _ _ h => nomatch h.1) (.inl ⟨by rfl, fun V_ hV => by go_simp⟩) Jd ?_
  try simp only [Act.put, List.getElem_toArray, List.getElem_cons_zero, List.getElem_cons_succ, List.setIfInBounds_toArray, List.set_cons_zero, List.set_cons_succ]
  refine wpAnyH_take (i := 3) (v := .int .i64 id) rfl (by kernel_rfl) (by kernel_rfl) (by kernel_rfl) (fun _ _ _ h => nomatch h.1) (.inl ⟨by rfl, fun V_ hV => by have c2 : V_.cell? ⟨gi, 0, none⟩ = some (.int .i64 id) := (hI.below hV hIl).cell 0; go_simp⟩) Jd ?_
  try simp only [Act.put, List.getElem_toArray, List.getElem_cons_zero, List.getElem_cons_succ, List.setIfInBounds_toArray, List.set_cons_zero, List.set_cons_succ]
  refine wpAnyH_take (i := 6) (v := .int .i64 0) rfl (by kernel_rfl) (by kernel_rfl) (by kernel_rfl) (fun _ _ _ h => nomatch h.1) (.inl ⟨by rfl, fun V_ hV => by go_simp⟩) Jd ?_
  try simp only [Act.put, List.getElem_toArray, List.getElem_cons_zero, List.getElem_cons_succ, List.setIfInBounds_toArray, List.set_cons_zero, List.set_cons_succ]
  refine wpAnyH_take (i := 1) (v := .pointer (some ⟨g, 0, none⟩)) rfl (by kernel_rfl) (by kernel_rfl) (by kernel_rfl) (fun _ _ _ h => nomatch h.1) (.inl ⟨by rfl, fun V_ hV => by go_simp⟩) Jd ?_
  try simp only [Act.put, List.getElem_toArray, List.getElem_cons_zero, List.getElem_cons_succ, List.setIfInBounds_toArray, List.set_cons_zero, List.set_cons_succ]
  refine wpAnyH_take (i := 2) (v := .agg (scC (some ⟨gR, 0, none⟩) m1 c1 A2 m2 c2)) rfl (by kernel_rfl) (by kernel_rfl) (by kernel_rfl) (fun _ _ _ h => nomatch h.1) (yieldsIf_blk (by rfl) 25 (.tmp 9) rfl g rfl (scC (some ⟨gR, 0, none⟩) m1 c1 A2 m2 c2) 25 _ (fun _ h => kg.below h hgL) Try.underlying25 rfl (sc_inf _ _ _ _ _ _)) Jd ?_
  try simp only [Act.put, List.getElem_toArray, List.getElem_cons_zero, List.getElem_cons_succ, List.setIfInBounds_toArray, List.set_cons_zero, List.set_cons_succ]
  refine wpAnyH_ready (rs := [4]) (by kernel_rfl) (by simp) ?_
  refine AllReadyH.cons rfl (fun K hK => ?_) AllReadyH.nil
  try simp only [Act.put, List.getElem_toArray, List.getElem_cons_zero, List.getElem_cons_succ, List.setIfInBounds_toArray, List.set_cons_zero, List.set_cons_succ]
  go_simp
  refine (HOW.out _ Jd).mono ?_
  rintro e W ⟨G, gm, gc, rfl, zg, bb⟩
  go_wp2_with fail
  have zg := zg.down Jd.size
  have Jd := Jd.trans (bb.mono Jd.size)
  clear bb
  refine hK.out _ _ Jd (fun _ => ?_)
  clear hK K
  try simp only [Act.put, List.getElem_toArray, List.getElem_cons_zero, List.getElem_cons_succ, List.setIfInBounds_toArray, List.set_cons_zero, List.set_cons_succ]
  refine wpAnyH_take (i := 5) (v := .int .i64 gm) rfl (by kernel_rfl) (by kernel_rfl) (by kernel_rfl) (fun _ _ _ h => nomatch h.1) (.inl ⟨by rfl, fun V_ hV => by go_simp⟩) Jd ?_
  try simp only [Act.put, List.getElem_toArray, List.getElem_cons_zero, List.getElem_cons_succ, List.setIfInBounds_toArray, List.set_cons_zero, List.set_cons_succ]
  refine wpAnyH_done (by kernel_rfl) ?_ _
  refine ⟨rfl, ?_⟩
  have HZL := Lib.hid zg.len
  have J0 : EnJ V B g gR m1 c1 k R L id l G gm gc gi W 0 R A2 m2 c2 L := by
    have own1 := HOWN.out.t.below Jd
    have hun : UpK L := by show (numsK L).Pairwise (· < ·); rw [numsK_names]; exact HE.out.ok.uk
    refine ⟨own1, kg.below Jd hgL, by rw [List.take_zero]; rfl, by rw [List.drop_zero]; exact HE.out, rfl, rfl, fun x hx hxn => ⟨hx, fun y hy hyn a ea e2 => ?_, ((HOWN.out.q x hx).below Jd (Nat.le_refl _))⟩, fun y hy _ => hy, zg, hI.below Jd hIl, Jd.mono hBV⟩
    obtain ⟨i, hi, rfl⟩ := List.getElem_of_mem hx
    obtain ⟨j, hj, rfl⟩ := List.getElem_of_mem hy
    have hij : i ≠ j := fun e => by subst e; exact hyn rfl
    have h5 := HOWN.out.qd i j hi hj hij a.block
    rw [show L.getD i kw0 = L[i] by simp [List.getD, hi], show L.getD j kw0 = L[j] by simp [List.getD, hj]] at h5
    exact h5 e2 (by have := ((HOWN.out.q _ hy).blkOf ea).1; exact this)
  have hm5 : gm ≤ 1000000 := by have := HZL.out; omega
  clear HOW HE zg HOWN Jd
  go_wp2_with fail
  go_loopw [14] (fun iv wr' => ∃ (j : Nat) (wr : World) (R' : List Rn) (A3 : Option Addr) (m3 c3 : Nat) (L' : List Kw), wr = wr' ∧ j ≤ gm ∧ iv = .int .i64 j ∧ Hid (EnJ V B g gR m1 c1 k R L id l G gm gc gi wr j R' A3 m3 c3 L')) (fun iv _ => gm - (intOf iv).toNat)
  case atStart => exact ⟨0, _, R, A2, m2, c2, L, rfl, Nat.zero_le _, rfl, Lib.hid J0⟩
  case round =>
    clear J0
    obtain ⟨j, wr, R', A3, m3, c3, L', hwr, hj, rfl, HJ⟩ := hrel
    subst hwr
    by_cases hlt : j < gm
    · have hlt' : (j : Int) < (gm : Int) := by omega
      have hjl : j < l.length := by have := HZL.out; omega
      obtain ⟨b, off, rfl, hb, hc⟩ := HJ.out.z.ri j hjl
      have hin := HJ.out.inv
      rw [drop_consZ l j hjl] at hin
      have hct := hin.has (List.mem_cons_self ..)
      rw [← numsK_names] at hct
      have HGV := Lib.hid (give_sc wr B g (some ⟨gR, 0, none⟩) m1 c1 R' A3 m3 c3 L' (l.getD j 0) HJ.out.own HJ.out.kk hBg hin.ok hct (fun h t e => by
        have huk : UpK L' := by show (numsK L').Pairwise (· < ·); rw [numsK_names]; exact hin.ok.uk
        obtain ⟨_, _, hm⟩ := at_num numK huk kw0 hct
        exact hin.th.1 _ (List.mem_map.2 ⟨_, hm, rfl⟩) h (by rw [show (L'.getD (lessP (L'.map numK) (l.getD j 0)) kw0).1.q = h :: t from e]; exact List.mem_cons_self ..)))
      have HST := Lib.hid (fun (w' : World) (R2 : List Rn) (A4 : Option Addr) (m4 c4 : Nat) (L2 : List Kw) (gv : GvL wr w' B g (some ⟨gR, 0, none⟩) m1 c1 R' L' (l.getD j 0) R2 A4 m4 c4 L2) => HJ.out.step hjl HK.out.1 HK.out.2 HW.out gv)
      generalize l.getD j 0 = v at hc HGV HST
      clear hin hct hjl HJ
      go_wp2_with (first
        | (refine HGV.out.mono ?_
           clear HGV
           rintro e W2 ⟨rfl, R2, A4, m4, c4, L2, gv⟩
           have HJ2 := Lib.hid (HST.out _ _ _ _ _ _ gv)
           clear gv HST))
      go_roundw
      case rel => exact ⟨j + 1, _, R2, A4, m4, c4, L2, rfl, by omega, by go_num, HJ2⟩
      case measure => simp [intOf]; omega
    · have hjm : gm = j := by omega
      subst hjm
      have J := HJ.out
      have hdr : l.drop gm = [] := by rw [HZL.out]; exact List.drop_length
      have htk : l.take gm = l := by rw [HZL.out]; exact List.take_length
      have hin := J.inv
      rw [hdr] at hin
      have hEE := J.e
      rw [htk] at hEE
      have huk : UpK L' := by show (numsK L').Pairwise (· < ·); rw [numsK_names]; exact hin.ok.uk
      obtain ⟨b, off, eR, hbR, hcR⟩ := J.own.rr.rs k (by rw [J.len]; exact HK.out.1)
      cases eR
      rw [Nat.zero_add, J.rk] at hcR
      have HLV := Lib.hid (leave_sc wr B g (some ⟨gR, 0, none⟩) m1 c1 R' A3 m3 c3 L' (R.getD k rn0) J.own J.kk hBg hin.ok (fun hc => by
        obtain ⟨_, hn, hm⟩ := at_num numK huk kw0 hc
        have hx := J.wt2 _ hm hn
        obtain ⟨_, h2, h3⟩ := J.wt _ hx hn
        exact ⟨h3, by rw [show (L'.getD (lessP (L'.map numK) (R.getD k rn0).n) kw0).1.n = (R.getD k rn0).n from hn] at h2; exact h2⟩))
      have HRN := Lib.hid (show (R.getD k rn0).i = id ∧ R' = (giveAll R (L.map (·.1)) l).1 ∧ L'.map (·.1) = (giveAll R (L.map (·.1)) l).2 from ⟨HK.out.2, congrArg Prod.fst hEE, congrArg Prod.snd hEE⟩)
      have HKL := Lib.hid (show k < R'.length by rw [J.len]; exact HK.out.1)
      have hbi := J.bi
      have hJb := J.b
      have HOK2 := Lib.hid hin.ok
      have hgl2 := J.kk.lt
      have hgiB : gi < B := hNB
      have hBwr : B ≤ wr.heap.size := Nat.le_trans hBg (Nat.le_of_lt hgl2)
      have hBgR : B ≤ gR := by obtain ⟨_, e9, h9, _⟩ := J.own.rr.at0 (by have := HKL.out; omega); cases e9; exact h9
      have HRK := Lib.hid J.rk
      obtain ⟨x, hx⟩ : ∃ x, R.getD k rn0 = x := ⟨_, rfl⟩
      rw [hx] at hcR HLV HRN
      have HX := Lib.hid hx
      have HLL := Lib.hid J.len
      clear hin hEE huk HJ J hx hdr htk HK HW
      have hbil := hbi.lt
      go_wp2_with (first
        | (refine wpList_load_mid rfl 52 (.tmp 24) rfl gR (k * 3) rfl (rnC x).toList _ hcR Try.underlying52 rfl (rn_infL x) ?_)
        | (refine HLV.out.mono ?_
           clear HLV
           rintro e W3 ⟨rfl, L3, own3, kg3, hn3, b3⟩
           have bi3 := hbi.below b3 hgiB
           have q3 : W3.cell? ⟨gi, 0, none⟩ = some (.int .i64 id) := bi3.cell 0
           obtain ⟨W4, hst, rr4, hg4⟩ := own3.rr.stored (k := k) HKL.out ⟨id, 2, 0⟩
           obtain ⟨curR, kR⟩ := roR_blk own3.rr (g := gR) rfl
           have hgRg : gR ≠ g := fun e => by rw [e] at kR; exact absurd (blk_kind kR kg3) (by decide)
           have HF := Lib.hid (show OwnT W4 B (some ⟨gR, 0, none⟩) m1 c1 (R'.set k ⟨id, 2, 0⟩) A3 m3 c3 L3 ∧ Blk W4 g (scC (some ⟨gR, 0, none⟩) m1 c1 A3 m3 c3) 25 ∧ Below B V W4 from
             ⟨⟨rr4, own_kind own3.rl hg4 (fun g' e => by cases e; exact ⟨_, _, kR, by decide⟩), fun y hy => (own3.q y hy).kind hg4 (fun g' e => by cases e; exact ⟨_, _, kR, by decide⟩)⟩, kg3.cellKeep (hg4.block g kg3.lt (fun e => hgRg (Option.some.inj e).symm)), (hJb.trans b3).trans ((Below.refl B W3).grown hg4 (Nat.le_trans hBwr b3.size) (fun r e => by cases e; exact hBgR))⟩)
           have HN3 := Lib.hid hn3
           clear own3 kg3 hn3 b3 bi3 rr4 hg4 kR)
        | (refine wpList_storeR rfl (.tmp 30) (.tmp 29) rfl ⟨gR, k * 3, none⟩ ⟨id, 2, 0⟩ rfl rfl hst ?_))
      go_ret
      obtain ⟨h1, h2, h3⟩ := HF.out
      have hok3 : Okd (R'.set k ⟨id, 2, 0⟩) (L3.map (·.1)) := by
        rw [HN3.out]
        refine Okd.setR (okd_leave HOK2.out _ _) HKL.out ?_
        rw [HRK.out, HX.out]
        exact HRN.out.1.symm
      refine ⟨by rw [HR.out]; rfl, Bx.of h3, (fun g e => by cases e), fun _ => ?_⟩
      rw [HR.out]
      refine ⟨some ⟨gR, 0, none⟩, m1, c1, A3, m3, c3, L3, h2, ?_, ?_, h1.fro⟩
      · have := h1.sc hok3
        rw [HRN.out.2.1] at this
        exact this
      · show L3.map (·.1) = _
        rw [HN3.out, HRN.out.2.2, HX.out, HRN.out.1]
theorem cntO_pos {L : List Kw} {n id : Int} (h : 0 < cntO L n id) : ∃ k ∈ L, k.1.n = n ∧ id ∈ k.1.q := by
  induction L with
  | nil => exact absurd h (by simp [cntO])
  | cons x L ih =>
    have e2 : cntO (x :: L) n id = (if (x.1.n == n) = true then x.1.q.count id else 0) + cntO L n id := by simp [cntO]
    by_cases h1 : 0 < cntO L n id
    · obtain ⟨k, hk, e, hq⟩ := ih h1
      exact ⟨k, List.mem_cons_of_mem _ hk, e, hq⟩
    · by_cases h2 : x.1.n = n
      · rw [if_pos (by simpa using h2)] at e2
        exact ⟨x, List.mem_cons_self .., h2, List.count_pos_iff.1 (by omega)⟩
      · rw [if_neg (by simpa using h2)] at e2
        omega
theorem endI_of {w : World} {B : Nat} {A : Option Addr} {m c : Nat} {R : List Rn} {A2 : Option Addr} {m2 c2 : Nat} {L : List Kw} {id : Int} (h : Sc w B A m c R A2 m2 c2 L) (hs : schB R L = true) (hl : livesB R id = true) :
    EndI R (L.map (·.1)) id (ownsN (L.map (·.1)) id) ∧ ∀ n ∈ ownsN (L.map (·.1)) id, n ≠ (R.getD (lessP (numsR R) id) rn0).n := by
  have f := fit_of h hs
  have hs0 := hs
  unfold schB at hs0
  simp only [Bool.and_eq_true, Bool.not_eq_true'] at hs0
  obtain ⟨_, hR, hK, hst, how, hqu⟩ := hs0
  have hoq : ∀ x ∈ L.map (·.1), x.o ∉ x.q := fun x hx => by
    obtain ⟨y, hy, rfl⟩ := List.mem_map.1 hx
    have h1 := List.all_eq_true.1 how y hy
    unfold ownB at h1
    rw [Bool.and_eq_true] at h1
    simpa using h1.2
  have hon : ∀ n ∈ ownsN (L.map (·.1)) id, ∃ x ∈ L.map (·.1), x.n = n ∧ x.o = id ∧ id ∉ x.q := fun n hn => by
    unfold ownsN at hn
    obtain ⟨x, hx, rfl⟩ := List.mem_map.1 hn
    obtain ⟨hx, ho⟩ := List.mem_filter.1 hx
    have ho' : x.o = id := by simpa using ho
    exact ⟨x, hx, rfl, ho', by rw [← ho']; exact hoq x hx⟩
  obtain ⟨hc, _⟩ := lives_in f.ok.ur hl
  obtain ⟨hk, hi, _⟩ := runF_some f.ok.ur hc
  have hm : R.getD (lessP (numsR R) id) rn0 ∈ R := by
    rw [show R.getD (lessP (numsR R) id) rn0 = R[lessP (numsR R) id] by simp [List.getD, hk]]
    exact List.getElem_mem _
  refine ⟨⟨f.ok, f.th, ?_, hon⟩, fun n hn e => ?_⟩
  · have h1 : (ownsN (L.map (·.1)) id).Sublist ((L.map (·.1)).map (·.n)) := List.filter_sublist.map _
    exact (f.ok.uk.sublist h1).imp (fun h => by omega)
  · obtain ⟨x, hx, hxn, hxo, hxq⟩ := hon n hn
    have hok := ((que_iff hR hK).2 ⟨hst, hqu⟩).1 _ hm
    unfold okR qOkB at hok
    simp only [Bool.and_eq_true, decide_eq_true_iff] at hok
    obtain ⟨_, _, _, _, h5⟩ := hok
    by_cases hw : (R.getD (lessP (numsR R) id) rn0).s = 1
    · rw [if_pos (by simpa using hw)] at h5
      simp only [Bool.and_eq_true, beq_iff_eq] at h5
      obtain ⟨y, hy, hyn, hyq⟩ := cntO_pos (L := L) (n := (R.getD (lessP (numsR R) id) rn0).n) (id := (R.getD (lessP (numsR R) id) rn0).i) (by omega)
      have : y.1 = x := uniq (fun z : Kn => z.n) f.ok.uk (List.mem_map.2 ⟨y, hy, rfl⟩) hx (by rw [hyn, ← e, hxn])
      rw [hi, this] at hyq
      exact hxq hyq
    · rw [if_neg (by simpa using hw)] at h5
      simp only [Bool.and_eq_true, beq_iff_eq] at h5
      have h6 := (riseT_up hK).2 x.n (by rw [numsK_names]; exact List.mem_map.2 ⟨x, hx, rfl⟩)
      omega
def endR (R : List Rn) (L : List Kw) (id : Int) : List Rn × List Kn × Int := chgS R L (ofF R id (endF R (L.map (·.1)) (lessP (numsR R) id) id))
set_option maxRecDepth 100000 in
set_option maxHeartbeats 8000000 in
theorem end_pub (A : Option Addr) (m c : Nat) (R : List Rn) (A2 : Option Addr) (m2 c2 : Nat) (L : List Kw) (id : Int) (w : World) (h : Sc w w.heap.size A m c R A2 m2 c2 L) :
    Calls Try.prog 13 #[scV A m c A2 m2 c2, .int .i64 id] w fun e w' => ∃ v, e = .returned (.tuple #[v, .int .i64 (endR R L id).2.2]) ∧ ScR w' w.heap.size v (endR R L id).1 (endR R L id).2.1 ∧ Below w.heap.size w w' := by
  have e1 := ((Blk.new w (scC A m c A2 m2 c2) 25).alloc (.cells #[.int .i64 id] 3)).alloc (.cells #[.slice none 0 0, .slice none 0 0] 25)
  have e2 := (Blk.new_ (w.alloc (.cells (scC A m c A2 m2 c2) 25)) #[.int .i64 id] 3 (n := w.heap.size + 1) (by simp)).alloc (.cells #[.slice none 0 0, .slice none 0 0] 25)
  have e4 : Blk (((w.alloc (.cells (scC A m c A2 m2 c2) 25)).alloc (.cells #[.int .i64 id] 3)).alloc (.cells #[.slice none 0 0, .slice none 0 0] 25)) (w.heap.size + 1 + 1) (scC none 0 0 none 0 0) 25 := Blk.new_ _ _ _ (by simp)
  have B0 := (((Below.refl w.heap.size w).alloc (Nat.le_refl _) (.cells (scC A m c A2 m2 c2) 25)).alloc (by simp) (.cells #[.int .i64 id] 3)).alloc (by simp; omega) (.cells #[.slice none 0 0, .slice none 0 0] 25)
  have CO := Lib.hid (changedOf_sc (w.heap.size + 1 + 1) 41 #[.pointer (some ⟨w.heap.size + 1, 0, none⟩)] (fun V => Blk V (w.heap.size + 1) #[.int .i64 id] 3) none false false A m c R A2 m2 c2 L id (endF R (L.map (·.1)) (lessP (numsR R) id) id) _ (enters_of Try.func41 (by kernel_rfl) rfl) (h.on B0) (fun k e => by cases e) (fun g e => by cases e) (Nat.le_of_lt e4.lt) (fun V hV => e2.below hV e2.lt) (fun V V' hV hb => hV.below hb hV.lt) (fun hc hl => by
    have hs : schB R L = true := by rcases scE_or R L with ⟨_, h2⟩ | ⟨h1, _⟩ <;> first | exact h2 | omega
    have ok := okd_of h hc
    obtain ⟨he, hw⟩ := endI_of h hs hl
    obtain ⟨hcc, _⟩ := lives_in ok.ur hl
    obtain ⟨hk, hi, _⟩ := runF_some ok.ur hcc
    exact end1_sc (w.heap.size + 1) id _ R (L.map (·.1)) ok he hk hi hw))
  unfold endR
  obtain ⟨r', hr'⟩ : ∃ r', r' = chgS R L (ofF R id (endF R (L.map (·.1)) (lessP (numsR R) id) id)) := ⟨_, rfl⟩
  rw [← hr'] at CO ⊢
  have qid := e2.cell 0
  change _ = some (Value.int .i64 id) at qid
  clear h hr' e2
  unfold scV at *
  go_enter Try.func13, Try.ntmps13
  go_wp2_with (first
    | (refine wpList_load_row rfl 25 (.tmp 2) rfl w.heap.size rfl 25 (scC A m c A2 m2 c2) (0, 0) _ e1.blk Try.underlying25 rfl (sc_inf A m c A2 m2 c2) ?_)
    | (refine CO.out.mono ?_
       clear CO
       rintro e w1 ⟨v, rfl, ⟨A5, m5, c5, A6, m6, c6, L5, rfl, sc5, hn5, fr5⟩, bx, ob⟩
       have b1 := bx.below
       have k41 := e4.below b1 e4.lt
       have b2 : Below w.heap.size w w1 := B0.trans (b1.mono B0.size)
       have fr6 := fr5.down B0.size
       have h4l := e4.lt
       clear bx ob e1 e4 b1
       unfold scV)
    | (refine wpList_store_blk rfl 25 (.tmp 4) (.tmp 10) rfl (w.heap.size + 1 + 1) (scC none 0 0 none 0 0) (scC A5 m5 c5 A6 m6 c6) 25 rfl rfl k41 rfl (sc_inf _ _ _ _ _ _) (sc_one _ _ _ _ _ _) ?_
       intro w2 h9 n9
       have sc9 := sc5.off' fr5 n9 h4l
       have b9 := b2.trans (n9.below _ (by omega) b2.size)
       clear sc5 b2 k41 n9))
  refine bodyPost_ret (results_row_tmp rfl _ _ (w.heap.size + 1 + 1) 25 (scC A5 m5 c5 A6 m6 c6) (0, 0) _ rfl h9.blk Try.underlying25 rfl (sc_inf _ _ _ _ _ _) _ rfl) rfl ?_
  exact ⟨_, rfl, ⟨A5, m5, c5, A6, m6, c6, L5, rfl, sc9, hn5, fr6⟩, b9⟩
end Go.Proofs.Ytolalbpjaebfdaa
