/-
  The reference's End.
-/
import Derived.Test.YtlelhhgggnjndaaGreatQTrL
import Derived.Test.YtlelhhgggnjndaaGreatQTpB
namespace Go.Proofs.YtlelhhgggnjndaaGreat
open Go.RowKit Go.Shelf
set_option linter.unusedVariables false
set_option linter.unusedSimpArgs false
structure EnS (w : World) (B : Nat) (a : Int) (Ua : Option Addr) (um uc : Nat) (U : List Int) (gP m c : Nat) (L : List Pw) (V : World) : Prop where
  b : Below w.heap.size w V
  k : Blk V w.heap.size (tkC a Ua um uc (some ⟨gP, 0, none⟩) m c) 27
  k2 : Blk V (w.heap.size + 1) (tkC 0 none 0 0 none 0 0) 27
  o : OwnW V B Ua um uc U (some ⟨gP, 0, none⟩) m c L
  s : B ≤ V.heap.size
theorem EnS.step {w : World} {B : Nat} {a : Int} {Ua : Option Addr} {um uc : Nat} {U : List Int} {gP m c : Nat} {L : List Pw} {V V' : World} (h : EnS w B a Ua um uc U gP m c L V) (b : Below V.heap.size V V') : EnS w B a Ua um uc U gP m c L V' :=
  ⟨h.b.trans (b.mono h.b.size), h.k.below b h.k.lt, h.k2.below b h.k2.lt, h.o.below b (Nat.le_refl _), Nat.le_trans h.s b.size⟩
def lvN (a : Int) (U : List Int) (P : List Pn) (j : Nat) (pid tid : Int) : Int × List Int × List Pn :=
  let s := if (tid != pid) = true then ((rfreeV a U tid).1, (rfreeV a U tid).2.1) else (a, U)
  (s.1, s.2, P.set j ⟨(P.getD j pn0).i, (P.getD j pn0).p, woutF (P.getD j pn0).t tid⟩)
def enN (a : Int) (U : List Int) (P : List Pn) (j : Nat) (pid tid : Int) : Int × List Int × List Pn :=
  if ((woutF (P.getD j pn0).t tid).length == 0) = true then edEnd (edF (lvN a U P j pid tid) (kidF (ofN (lvN a U P j pid tid).2.2) pid)) pid else lvN a U P j pid tid
theorem kid_nm {L M : List Pw} (h : L.map (·.1) = M.map (·.1)) (pid : Int) : kidF L pid = kidF M pid := by
  have e : ∀ L : List Pw, kidF L pid = ((L.map (·.1)).filter (fun x => x.p == pid && pid != 0)).map (·.i) := fun L => by
    unfold kidF
    rw [List.filter_map, List.map_map]
    rfl
  rw [e, e, h]
theorem fnd_ids : ∀ {L M : List Pw} (k : Nat) (q : Int), L.map (·.1.i) = M.map (·.1.i) → fndF k L q = fndF k M q
  | [], [], k, q, _ => rfl
  | [], y :: M, k, q, h => by simp at h
  | x :: L, [], k, q, h => by simp at h
  | x :: L, y :: M, k, q, h => by
    rw [List.map_cons, List.map_cons] at h
    injection h with h1 h2
    rw [fndF, fndF, h1, fnd_ids (k + 1) q h2]
theorem lv_ids {L M : List Pw} {j : Nat} {t : List Int} (hj : j < L.length) (h : M.map (·.1) = (L.map (·.1)).set j ⟨(L.getD j pw0).1.i, (L.getD j pw0).1.p, t⟩) : M.map (·.1.i) = L.map (·.1.i) := by
  have h1 := congrArg (List.map (·.i)) h
  rw [List.map_map, List.map_set, List.map_map] at h1
  have h2 : (L.getD j pw0).1.i = (L.map (·.1.i))[j]'(by simpa using hj) := by simp [List.getD, hj]
  have h3 : M.map (·.1.i) = (L.map (·.1.i)).set j (L.getD j pw0).1.i := h1
  rw [h3, h2, List.set_getElem_self]
theorem lv_at {L M : List Pw} {j : Nat} {v : Pn} (hj : j < L.length) (h : M.map (·.1) = (L.map (·.1)).set j v) : (M.getD j pw0).1 = v := by
  have hl : M.length = L.length := by have h1 := congrArg List.length h; simpa using h1
  have h1 := congrArg (fun l => l[j]?) h
  have hm : j < M.length := by omega
  simpa [List.getD, hm, hj] using h1
def EnS2 (w : World) (a : Int) (U1 : Option Addr) (um1 uc1 gP m1 c1 : Nat) (V : World) : Prop := Blk V w.heap.size (tkC a U1 um1 uc1 (some ⟨gP, 0, none⟩) m1 c1) 27 ∧ Blk V (w.heap.size + 1) (tkC 0 none 0 0 none 0 0) 27 ∧ Below w.heap.size w V
def EnR (w : World) (E : Int × List Int × List Pn) (er : Int) (e : Ending) (w' : World) : Prop := ∃ Ua um uc A m c M, e = .returned (.tuple #[tkV E.1 Ua um uc A m c, .int .i64 er]) ∧ OwnW w' w.heap.size Ua um uc E.2.1 A m c M ∧ M.map (·.1) = E.2.2 ∧ um ≤ 100000 ∧ m ≤ 100000 ∧ Below w.heap.size w w'
set_option maxRecDepth 100000 in
set_option maxHeartbeats 8000000 in
theorem end_rf (a : Int) (Ua : Option Addr) (um uc : Nat) (U : List Int) (A : Option Addr) (m c : Nat) (L : List Pw) (tid pid : Int) (j : Nat) (w : World) (h : Tk w w.heap.size Ua um uc U A m c L) (hu6 : um ≤ 100000) (hof : ofR L tid = pid) (hp0 : (pid == 0) = false) (hj : j < L.length) (hf : fndF 0 L pid = (j : Int))
    (hed : ∀ (um m : Nat) (M : List Pw), M.map (·.1) = (lvN a U (L.map (·.1)) j pid tid).2.2 → um ≤ 100000 → m ≤ 100000 → m = M.length → EdI um m M (kidF M pid) pid) :
    Calls Tryz.prog 34 #[tkV a Ua um uc A m c, .int .i64 tid] w fun e w' => EnR w (enN a U (L.map (·.1)) j pid tid) 0 e w' := by
  have k1 := (Blk.new w (tkC a Ua um uc A m c) 27).alloc (.cells (tkC 0 none 0 0 none 0 0) 27)
  have k2 := Blk.new_ (w.alloc (.cells (tkC a Ua um uc A m c) 27)) (tkC 0 none 0 0 none 0 0) 27 (n := w.heap.size + 1) (by simp)
  have B0 := ((Below.refl w.heap.size w).alloc (Nat.le_refl _) (.cells (tkC a Ua um uc A m c) 27)).alloc (by simp) (.cells (tkC 0 none 0 0 none 0 0) 27)
  have t0 := h.on B0
  have OF := Lib.hid (of_rf a Ua um uc A m c L tid _ t0.p t0.pl (by have := h.p6; omega))
  rw [hof] at OF
  have LV := Lib.hid (fun (V : World) (hV : Below w.heap.size w V) => leaves_rf a Ua um uc U A m c L pid tid j V (h.on hV) hu6 hj hf)
  have HX := Lib.hid h
  have HJ := Lib.hid (And.intro hj (And.intro hf hu6))
  have HED := Lib.hid hed
  have HE0 := Lib.hid (show ∃ E, enN a U (L.map (·.1)) j pid tid = E from ⟨_, rfl⟩)
  obtain ⟨E, hE⟩ := HE0.out
  rw [hE]
  have HE := Lib.hid hE.symm
  clear h t0 hof hj hf hed hE HE0 hu6
  unfold tkV at OF LV ⊢
  go_enter Tryz.func34, Tryz.ntmps34
  go_wp2_with (first
    | (refine wpList_load_row rfl 27 (.tmp 2) rfl w.heap.size rfl 27 (tkC a Ua um uc A m c) (0, 0) _ k1.blk Tryz.underlying27 rfl (tk_inf _ _ _ _ _ _ _) ?_)
    | (refine OF.out.mono ?_
       clear OF
       rintro e w1 ⟨rfl, bb⟩
       have k1 := k1.below bb k1.lt
       have k2 := k2.below bb k2.lt
       have B1 := B0.trans (bb.mono B0.size)
       clear bb B0
       go_wp2_with (first
         | (refine wpList_load_row rfl 27 (.tmp 2) rfl w.heap.size rfl 27 (tkC a Ua um uc A m c) (0, 0) _ k1.blk Tryz.underlying27 rfl (tk_inf _ _ _ _ _ _ _) ?_)
         | (refine (LV.out _ B1).mono ?_
            clear LV
            rintro e w2 ⟨a1, U1, um1, uc1, l1, A1, m1, c1, M, rfl, o2, hal, hnm, bb⟩
            obtain ⟨B, hB⟩ : ∃ x, w1.heap.size = x := ⟨_, rfl⟩
            have hBB := k2.lt
            have hBs := bb.size
            have k1 := k1.below bb k1.lt
            have k2 := k2.below bb k2.lt
            rw [hB] at o2 hBB hBs
            have HBB := Lib.hid (And.intro hBB hBs)
            have B2 := B1.trans (bb.mono B1.size)
            have HAL := Lib.hid (And.intro hal hnm)
            clear bb B1 hal hnm hB hBB hBs
            unfold tkV)
         | (refine wpList_store_blk rfl 27 (.tmp 2) (.tmp 16) rfl w.heap.size (tkC a Ua um uc A m c) (tkC a1 U1 um1 uc1 A1 m1 c1) 27 rfl rfl k1 rfl (tk_inf _ _ _ _ _ _ _) (tk_one _ _ _ _ _ _ _) ?_
            intro w3 k3 n3
            have o3 := o2.kind n3 k1 (by decide) (by decide)
            have hs3 := Nat.le_trans HBB.out.2 n3.size
            have k23 := n3.blk7 k2 (by omega)
            have B3 := B2.trans (n3.below _ (Nat.le_refl _) B2.size)
            clear n3 k1 k2 o2 B2))))
  have hjM : j < M.length := by have h1 := congrArg List.length HAL.out.2; simp only [List.length_map, List.length_set] at h1; have := HJ.out.1; omega
  have hml : M.length = L.length := by have h1 := congrArg List.length HAL.out.2; simpa using h1
  obtain ⟨gP, hA, hgP, hgPl⟩ := o3.p.at0 (by omega)
  subst hA
  have hxq : ∀ x ∈ M, x.1.t.length ≤ 1000000 := fun x hx => by
    have h1 : x.1 ∈ (L.map (·.1)).set j ⟨(L.getD j pw0).1.i, (L.getD j pw0).1.p, woutF (L.getD j pw0).1.t tid⟩ := by rw [← HAL.out.2]; exact List.mem_map.2 ⟨x, hx, rfl⟩
    rcases List.mem_or_eq_of_mem_set h1 with h2 | h2
    · obtain ⟨y, hy, e⟩ := List.mem_map.1 h2
      rw [← e]
      exact (HX.out.p.tr y hy).l
    · rw [h2]
      refine Nat.le_trans (List.length_filter_le _ _) ?_
      have hm : L.getD j pw0 ∈ L := by rw [show L.getD j pw0 = L[j]'HJ.out.1 by simp [List.getD, HJ.out.1]]; exact List.getElem_mem _
      exact (HX.out.p.tr _ hm).l
  have J0 : EnS w B a1 U1 um1 uc1 l1 gP m1 c1 M w3 := ⟨B3, k3, k23, o3, hs3⟩
  have hm1 : m1 = M.length := o3.p.len
  have hm9 : m1 ≤ 100000 := by have := HX.out.pl; have := HX.out.p6; omega
  have hu9 : um1 ≤ 100000 := by
    have h1 := o3.u.len
    have h2 := congrArg (fun s => s.2.length) HAL.out.1
    simp only at h2
    have h3 := HX.out.ul
    have h4 := HJ.out.2.2
    have h5 := rfree_len a U tid
    split at h2
    · simp only at h2; omega
    · simp only at h2; omega
  have FN := Lib.hid (fun (V : World) (hV : EnS w B a1 U1 um1 uc1 l1 gP m1 c1 M V) => find_rf a1 U1 um1 uc1 (some ⟨gP, 0, none⟩) m1 c1 M pid V (hV.o.ps hxq) hm1 (by omega))
  rw [fnd_ids 0 pid (lv_ids HJ.out.1 HAL.out.2), HJ.out.2.1] at FN
  obtain ⟨xs2, hx2⟩ : ∃ y, (M.getD j pw0).2.1 = y := ⟨_, rfl⟩
  obtain ⟨xs3, hx3⟩ : ∃ y, (M.getD j pw0).2.2 = y := ⟨_, rfl⟩
  obtain ⟨xn, hxn⟩ : ∃ y, (M.getD j pw0).1.t.length = y := ⟨_, rfl⟩
  have HTH := Lib.hid (fun (V : World) (hV : EnS w B a1 U1 um1 uc1 l1 gP m1 c1 M V) => (show V.cell? ⟨gP, j * 3 + 2, none⟩ = some (.slice xs2 xn xs3) from by
    obtain ⟨b8, off8, he8, _, hc8⟩ := hV.o.p.rs j hjM
    cases he8
    rw [Nat.zero_add] at hc8
    rw [← hx2, ← hx3, ← hxn]
    exact hc8 2 _ rfl))
  have hxt : (woutF (L.getD j pw0).1.t tid).length = xn := by rw [← hxn, lv_at HJ.out.1 HAL.out.2]
  have hgL : ((L.map (·.1)).getD j pn0) = (L.getD j pw0).1 := by have := HJ.out.1; simp [List.getD, this]
  have hlv : lvN a U (L.map (·.1)) j pid tid = (a1, l1, M.map (·.1)) := by
    unfold lvN
    rw [hgL, ← HAL.out.2, ← HAL.out.1]
  have hE1 := HE.out
  unfold enN at hE1
  rw [hlv, hgL, hxt, kid_nm (ofN_nm (M.map (·.1)))] at hE1
  have HED1 := Lib.hid (HED.out um1 m1 M (by rw [hlv]) hu9 hm9 hm1)
  have HE1 := Lib.hid hE1
  have HB := Lib.hid (And.intro hu9 hm9)
  have hjm : (j : Int) < (m1 : Int) := by omega
  unfold tkV at FN
  clear hE1 hlv hgL hxt hxn hx3 hx2 hm1 hm9 hu9 hxq hml hjM HE HED HAL HX HJ o3 k3 k23 B3 hgPl
  obtain ⟨xb, hxb⟩ : ∃ b, (xn == 0) = b := ⟨_, rfl⟩
  cases xb
  · have HE2 := Lib.hid (show E = (a1, l1, M.map (·.1)) from by rw [HE1.out, hxb]; rfl)
    have HXN0 := Lib.hid (show xn ≠ 0 from by simpa using hxb)
    clear HE1 hxb
    go_wp2_with fail
    have J := J0.step (Below.refl _ _).drew
    clear J0
    refine region_cutP ?_
    refine wp_region_held_drew (S := EnS w B a1 U1 um1 uc1 l1 gP m1 c1 M) (by kernel_rfl) J (fun _ => ?_)
    refine wpAnyH_take (i := 0) (v := .pointer (some ⟨w.heap.size, 2, none⟩)) rfl (by kernel_rfl) (by kernel_rfl) (by kernel_rfl) (fun _ _ _ h => nomatch h.1) (.inl ⟨by rfl, fun V hV => by go_simp⟩) J ?_
    try simp only [Act.put, qA, qB, qC, qD, qE, qF]
    refine wpAnyH_take (i := 1) (v := .slice (some ⟨gP, 0, none⟩) m1 c1) rfl (by kernel_rfl) (by kernel_rfl) (by kernel_rfl) (fun _ _ _ h => nomatch h.1) (.inl ⟨by rfl, fun V hV => by have c2 : V.cell? ⟨w.heap.size, 2, none⟩ = some (.slice (some ⟨gP, 0, none⟩) m1 c1) := hV.k.cell 2; go_simp⟩) J ?_
    try simp only [Act.put, qA, qB, qC, qD, qE, qF]
    refine wpAnyH_take (i := 2) (v := .agg (tkC a1 U1 um1 uc1 (some ⟨gP, 0, none⟩) m1 c1)) rfl (by kernel_rfl) (by kernel_rfl) (by kernel_rfl) (fun _ _ _ h => nomatch h.1) (yieldsIf_blk (by rfl) 27 (.tmp 2) rfl w.heap.size rfl (tkC a1 U1 um1 uc1 (some ⟨gP, 0, none⟩) m1 c1) 27 _ (fun _ h => h.k) Tryz.underlying27 rfl (tk_inf _ _ _ _ _ _ _)) J ?_
    try simp only [Act.put, qA, qB, qC, qD, qE, qF]
    refine wpAnyH_take (i := 3) (v := .int .i64 pid) rfl (by kernel_rfl) (by kernel_rfl) (by kernel_rfl) (fun _ _ _ h => nomatch h.1) (.inl ⟨by rfl, fun V hV => by go_simp⟩) J ?_
    try simp only [Act.put, qA, qB, qC, qD, qE, qF]
    refine wpAnyH_ready (rs := [4]) (by kernel_rfl) (by simp) ?_
    refine AllReadyH.cons rfl (fun K hK => ?_) AllReadyH.nil
    try simp only [Act.put, qA, qB, qC, qD, qE, qF]
    go_simp
    refine (FN.out _ J).mono ?_
    rintro e w6 ⟨rfl, bb⟩
    have J := J.step bb
    clear bb FN
    refine hK.out _ _ J (fun _ => ?_)
    clear hK K
    try simp only [Act.put, qA, qB, qC, qD, qE, qF]
    refine wpAnyH_take (i := 5) (v := .pointer (some ⟨gP, j * 3, none⟩)) rfl (by kernel_rfl) (by kernel_rfl) (by kernel_rfl) (fun _ _ _ h => nomatch h.1) (.inl ⟨by rfl, fun V hV => by go_simp⟩) J ?_
    try simp only [Act.put, qA, qB, qC, qD, qE, qF]
    refine wpAnyH_take (i := 6) (v := .pointer (some ⟨gP, j * 3 + 2, none⟩)) rfl (by kernel_rfl) (by kernel_rfl) (by kernel_rfl) (fun _ _ _ h => nomatch h.1) (.inl ⟨by rfl, fun V hV => by go_simp⟩) J ?_
    try simp only [Act.put, qA, qB, qC, qD, qE, qF]
    refine wpAnyH_take (i := 7) (v := .slice xs2 xn xs3) rfl (by kernel_rfl) (by kernel_rfl) (by kernel_rfl) (fun _ _ _ h => nomatch h.1) (.inl ⟨by rfl, fun V hV => by have c3 := HTH.out V hV; go_simp⟩) J ?_
    try simp only [Act.put, qA, qB, qC, qD, qE, qF]
    refine wpAnyH_take (i := 8) (v := .int .i64 xn) rfl (by kernel_rfl) (by kernel_rfl) (by kernel_rfl) (fun _ _ _ h => nomatch h.1) (.inl ⟨by rfl, fun V hV => by go_simp⟩) J ?_
    try simp only [Act.put, qA, qB, qC, qD, qE, qF]
    refine wpAnyH_take (i := 9) (v := .bool false) rfl (by kernel_rfl) (by kernel_rfl) (by kernel_rfl) (fun _ _ _ h => nomatch h.1) (.inl ⟨by rfl, fun V hV => by have hq := HXN0.out; go_simp⟩) J ?_
    try simp only [Act.put, qA, qB, qC, qD, qE, qF]
    refine wpAnyH_done (by kernel_rfl) ?_ _
    refine ⟨rfl, ?_⟩
    go_wp2_with (first
      | (refine wpList_load_row rfl 27 (.tmp 2) rfl w.heap.size rfl 27 (tkC a1 U1 um1 uc1 (some ⟨gP, 0, none⟩) m1 c1) (0, 0) _ J.k.blk Tryz.underlying27 rfl (tk_inf _ _ _ _ _ _ _) ?_)
      | (refine wpList_store_blk rfl 27 (.tmp 4) (.tmp 30) rfl (w.heap.size + 1) (tkC 0 none 0 0 none 0 0) (tkC a1 U1 um1 uc1 (some ⟨gP, 0, none⟩) m1 c1) 27 rfl rfl J.k2 rfl (tk_inf _ _ _ _ _ _ _) (tk_one _ _ _ _ _ _ _) ?_
         intro w7 k7 n7))
    refine bodyPost_ret (results_row_tmp rfl _ _ (w.heap.size + 1) 27 (tkC a1 U1 um1 uc1 (some ⟨gP, 0, none⟩) m1 c1) (0, 0) _ rfl k7.blk Tryz.underlying27 rfl (tk_inf _ _ _ _ _ _ _) (.int .i64 0) rfl) rfl ?_
    exact ⟨U1, um1, uc1, _, m1, c1, M, by rw [HE2.out]; rfl, by rw [HE2.out]; exact (J.o.kind n7 J.k2 (by decide) (by decide)).down (by have := HBB.out.1; omega), by rw [HE2.out], HB.out.1, HB.out.2, J.b.trans (n7.below _ (by omega) J.b.size)⟩
  · have HE2 := Lib.hid (show E = edEnd (edF (a1, l1, M.map (·.1)) (kidF M pid)) pid from by rw [HE1.out, hxb]; rfl)
    obtain rfl : xn = 0 := by simpa using hxb
    have HXN0 := Lib.hid (show (0 : Nat) = 0 from rfl)
    have ED := Lib.hid (fun (V : World) (hV : EnS w B a1 U1 um1 uc1 l1 gP m1 c1 M V) => ended_rf a1 U1 um1 uc1 l1 (some ⟨gP, 0, none⟩) m1 c1 M pid B V hV.o hV.s HED1.out E HE2.out)
    unfold tkV at ED
    clear HE1 hxb
    go_wp2_with fail
    have J := J0.step (Below.refl _ _).drew
    clear J0
    refine region_cutP ?_
    refine wp_region_held_drew (S := EnS w B a1 U1 um1 uc1 l1 gP m1 c1 M) (by kernel_rfl) J (fun _ => ?_)
    refine wpAnyH_take (i := 0) (v := .pointer (some ⟨w.heap.size, 2, none⟩)) rfl (by kernel_rfl) (by kernel_rfl) (by kernel_rfl) (fun _ _ _ h => nomatch h.1) (.inl ⟨by rfl, fun V hV => by go_simp⟩) J ?_
    try simp only [Act.put, qA, qB, qC, qD, qE, qF]
    refine wpAnyH_take (i := 1) (v := .slice (some ⟨gP, 0, none⟩) m1 c1) rfl (by kernel_rfl) (by kernel_rfl) (by kernel_rfl) (fun _ _ _ h => nomatch h.1) (.inl ⟨by rfl, fun V hV => by have c2 : V.cell? ⟨w.heap.size, 2, none⟩ = some (.slice (some ⟨gP, 0, none⟩) m1 c1) := hV.k.cell 2; go_simp⟩) J ?_
    try simp only [Act.put, qA, qB, qC, qD, qE, qF]
    refine wpAnyH_take (i := 2) (v := .agg (tkC a1 U1 um1 uc1 (some ⟨gP, 0, none⟩) m1 c1)) rfl (by kernel_rfl) (by kernel_rfl) (by kernel_rfl) (fun _ _ _ h => nomatch h.1) (yieldsIf_blk (by rfl) 27 (.tmp 2) rfl w.heap.size rfl (tkC a1 U1 um1 uc1 (some ⟨gP, 0, none⟩) m1 c1) 27 _ (fun _ h => h.k) Tryz.underlying27 rfl (tk_inf _ _ _ _ _ _ _)) J ?_
    try simp only [Act.put, qA, qB, qC, qD, qE, qF]
    refine wpAnyH_take (i := 3) (v := .int .i64 pid) rfl (by kernel_rfl) (by kernel_rfl) (by kernel_rfl) (fun _ _ _ h => nomatch h.1) (.inl ⟨by rfl, fun V hV => by go_simp⟩) J ?_
    try simp only [Act.put, qA, qB, qC, qD, qE, qF]
    refine wpAnyH_ready (rs := [4]) (by kernel_rfl) (by simp) ?_
    refine AllReadyH.cons rfl (fun K hK => ?_) AllReadyH.nil
    try simp only [Act.put, qA, qB, qC, qD, qE, qF]
    go_simp
    refine (FN.out _ J).mono ?_
    rintro e w6 ⟨rfl, bb⟩
    have J := J.step bb
    clear bb FN
    refine hK.out _ _ J (fun _ => ?_)
    clear hK K
    try simp only [Act.put, qA, qB, qC, qD, qE, qF]
    refine wpAnyH_take (i := 5) (v := .pointer (some ⟨gP, j * 3, none⟩)) rfl (by kernel_rfl) (by kernel_rfl) (by kernel_rfl) (fun _ _ _ h => nomatch h.1) (.inl ⟨by rfl, fun V hV => by go_simp⟩) J ?_
    try simp only [Act.put, qA, qB, qC, qD, qE, qF]
    refine wpAnyH_take (i := 6) (v := .pointer (some ⟨gP, j * 3 + 2, none⟩)) rfl (by kernel_rfl) (by kernel_rfl) (by kernel_rfl) (fun _ _ _ h => nomatch h.1) (.inl ⟨by rfl, fun V hV => by go_simp⟩) J ?_
    try simp only [Act.put, qA, qB, qC, qD, qE, qF]
    refine wpAnyH_take (i := 7) (v := .slice xs2 0 xs3) rfl (by kernel_rfl) (by kernel_rfl) (by kernel_rfl) (fun _ _ _ h => nomatch h.1) (.inl ⟨by rfl, fun V hV => by have c3 := HTH.out V hV; go_simp⟩) J ?_
    try simp only [Act.put, qA, qB, qC, qD, qE, qF]
    refine wpAnyH_take (i := 8) (v := .int .i64 0) rfl (by kernel_rfl) (by kernel_rfl) (by kernel_rfl) (fun _ _ _ h => nomatch h.1) (.inl ⟨by rfl, fun V hV => by go_simp⟩) J ?_
    try simp only [Act.put, qA, qB, qC, qD, qE, qF]
    refine wpAnyH_take (i := 9) (v := .bool true) rfl (by kernel_rfl) (by kernel_rfl) (by kernel_rfl) (fun _ _ _ h => nomatch h.1) (.inl ⟨by rfl, fun V hV => by have hq := HXN0.out; go_simp⟩) J ?_
    try simp only [Act.put, qA, qB, qC, qD, qE, qF]
    refine wpAnyH_done (by kernel_rfl) ?_ _
    refine ⟨rfl, ?_⟩
    go_wp2_with (first
      | (refine wpList_load_row rfl 27 (.tmp 2) rfl w.heap.size rfl 27 (tkC a1 U1 um1 uc1 (some ⟨gP, 0, none⟩) m1 c1) (0, 0) _ J.k.blk Tryz.underlying27 rfl (tk_inf _ _ _ _ _ _ _) ?_)
      | (refine (ED.out _ J).mono ?_
         clear ED
         rintro e w5 ⟨U6, um6, uc6, A6, m6, c6, M6, rfl, o6, hn6, bb, hu6, hm6, hs6⟩
         have J5 : EnS2 w a1 U1 um1 uc1 gP m1 c1 w5 := ⟨J.k.below bb (by have := HBB.out.1; omega), J.k2.below bb (by have := HBB.out.1; omega), J.b.trans (bb.mono (by have := HBB.out.1; omega))⟩
         have HB6 := Lib.hid (And.intro hn6 (And.intro hu6 hm6))
         clear J bb hs6 hn6 hu6 hm6)
      | (refine wpList_store_blk rfl 27 (.tmp 2) (.tmp 29) rfl w.heap.size (tkC a1 U1 um1 uc1 (some ⟨gP, 0, none⟩) m1 c1) (tkC E.1 U6 um6 uc6 A6 m6 c6) 27 rfl rfl J5.1 rfl (tk_inf _ _ _ _ _ _ _) (tk_one _ _ _ _ _ _ _) ?_
         intro w6 k6 n6
         have o66 := o6.kind n6 J5.1 (by decide) (by decide)
         have k26 := n6.blk7 J5.2.1 (by omega)
         have B6 := J5.2.2.trans (n6.below _ (Nat.le_refl _) J5.2.2.size)
         clear n6 J5 o6)
      | (refine wpList_load_row rfl 27 (.tmp 2) rfl w.heap.size rfl 27 (tkC E.1 U6 um6 uc6 A6 m6 c6) (0, 0) _ k6.blk Tryz.underlying27 rfl (tk_inf _ _ _ _ _ _ _) ?_)
      | (refine wpList_store_blk rfl 27 (.tmp 4) (.tmp 30) rfl (w.heap.size + 1) (tkC 0 none 0 0 none 0 0) (tkC E.1 U6 um6 uc6 A6 m6 c6) 27 rfl rfl k26 rfl (tk_inf _ _ _ _ _ _ _) (tk_one _ _ _ _ _ _ _) ?_
         intro w7 k7 n7))
    refine bodyPost_ret (results_row_tmp rfl _ _ (w.heap.size + 1) 27 (tkC E.1 U6 um6 uc6 A6 m6 c6) (0, 0) _ rfl k7.blk Tryz.underlying27 rfl (tk_inf _ _ _ _ _ _ _) (.int .i64 0) rfl) rfl ?_
    exact ⟨U6, um6, uc6, _, m6, c6, M6, rfl, (o66.kind n7 k26 (by decide) (by decide)).down (by have := HBB.out.1; omega), HB6.out.1, HB6.out.2.1, HB6.out.2.2, B6.trans (n7.below _ (by omega) B6.size)⟩
end Go.Proofs.YtlelhhgggnjndaaGreat
