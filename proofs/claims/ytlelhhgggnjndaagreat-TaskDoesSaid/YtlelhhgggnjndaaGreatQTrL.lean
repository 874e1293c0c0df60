/-
  The reference's leaves.
-/
import Derived.Test.YtlelhhgggnjndaaGreatQTrE
import Derived.Test.YtlelhhgggnjndaaGreatQTqV
namespace Go.Proofs.YtlelhhgggnjndaaGreat
open Go.RowKit Go.Shelf
set_option linter.unusedVariables false
set_option linter.unusedSimpArgs false
def thP (x : Pw) (t : List Int) (r : Option Addr × Nat) : Pw := (⟨x.1.i, x.1.p, t⟩, r)
theorem OwnW.setTh {V : World} {B um uc gP m c k : Nat} {Ua : Option Addr} {U : List Int} {L : List Pw} (own : OwnW V B Ua um uc U (some ⟨gP, 0, none⟩) m c L) (hk : k < L.length) {G : Option Addr} {gm gc : Nat} {t : List Int} (z : Zo V B G gm gc t) : OwnW (V.setCell ⟨gP, k * 3 + 2, none⟩ (.slice G gm gc)) B Ua um uc U (some ⟨gP, 0, none⟩) m c (L.set k (thP (L.getD k pw0) t (G, gc))) := by
  have n5 : But gP V (V.setCell ⟨gP, k * 3 + 2, none⟩ (.slice G gm gc)) := (But.refl gP V).setCell (p := ⟨gP, k * 3 + 2, none⟩) (.inl rfl) _
  obtain ⟨curP, kP⟩ := roP_blk own.p rfl
  have kind5 : ∀ {A m c l B'}, Zo V B' A m c l → Zo (V.setCell ⟨gP, k * 3 + 2, none⟩ (.slice G gm gc)) B' A m c l := fun h => own_kind h (grown_but n5) (fun g' e => by cases e; exact ⟨_, _, kP, by decide⟩)
  have hl := z.len
  subst hl
  refine ⟨kind5 own.u, own.p.cellSet hk (by omega) rfl, fun y hy => ?_⟩
  rcases List.mem_or_eq_of_mem_set hy with h | rfl
  · exact kind5 (own.q y h)
  · exact kind5 z
def LvS (w : World) (a : Int) (U1 : Option Addr) (um1 uc1 gP m1 c1 : Nat) (V : World) : Prop := Blk V w.heap.size (tkC a U1 um1 uc1 (some ⟨gP, 0, none⟩) m1 c1) 27 ∧ Blk V (w.heap.size + 1) (tkC 0 none 0 0 none 0 0) 27 ∧ Below w.heap.size w V
theorem LvS.step {w : World} {a : Int} {U1 : Option Addr} {um1 uc1 gP m1 c1 : Nat} {V V' : World} (h : LvS w a U1 um1 uc1 gP m1 c1 V) (b : Below V.heap.size V V') : LvS w a U1 um1 uc1 gP m1 c1 V' := ⟨h.1.below b h.1.lt, h.2.1.below b h.2.1.lt, h.2.2.trans (b.mono h.2.2.size)⟩
theorem LvS.set {w : World} {a : Int} {U1 : Option Addr} {um1 uc1 gP m1 c1 j : Nat} {V : World} {l1 : List Int} {M : List Pw} (h : LvS w a U1 um1 uc1 gP m1 c1 V) (o : OwnW V w.heap.size U1 um1 uc1 l1 (some ⟨gP, 0, none⟩) m1 c1 M) (hj : j < M.length) (v : Value) : LvS w a U1 um1 uc1 gP m1 c1 (V.setCell ⟨gP, j * 3 + 2, none⟩ v) := by
  have n5 : But gP V (V.setCell ⟨gP, j * 3 + 2, none⟩ v) := (But.refl gP V).setCell (p := ⟨gP, j * 3 + 2, none⟩) (.inl rfl) _
  obtain ⟨curP, kP⟩ := roP_blk o.p rfl
  have hg : w.heap.size ≤ gP := by
    rcases o.p.form with ⟨e, _⟩ | ⟨g9, e, h2, _⟩
    · cases e
    · cases e; exact h2
  have hk : ∀ {g cs}, Blk V g cs 27 → Blk (V.setCell ⟨gP, j * 3 + 2, none⟩ v) g cs 27 := fun {g cs} k => n5.blk7 k (fun e => by rw [e] at k; exact absurd (blk_kind k kP) (by decide))
  exact ⟨hk h.1, hk h.2.1, h.2.2.trans (n5.below _ hg h.2.2.size)⟩
def LvR (w : World) (a : Int) (U : List Int) (L : List Pw) (j : Nat) (pid tid : Int) (e : Ending) (w' : World) : Prop := ∃ a' Ua um uc l' A m c M, e = .returned (tkV a' Ua um uc A m c) ∧ OwnW w' w.heap.size Ua um uc l' A m c M ∧ (a', l') = (if (tid != pid) = true then ((rfreeV a U tid).1, (rfreeV a U tid).2.1) else (a, U)) ∧ M.map (·.1) = (L.map (·.1)).set j ⟨(L.getD j pw0).1.i, (L.getD j pw0).1.p, woutF (L.getD j pw0).1.t tid⟩ ∧ Below w.heap.size w w'
set_option maxRecDepth 100000 in
set_option maxHeartbeats 8000000 in
theorem leaves_rf (a : Int) (Ua : Option Addr) (um uc : Nat) (U : List Int) (A : Option Addr) (m c : Nat) (L : List Pw) (pid tid : Int) (j : Nat) (w : World) (h : Tk w w.heap.size Ua um uc U A m c L) (hu6 : um ≤ 100000) (hj : j < L.length) (hf : fndF 0 L pid = (j : Int)) :
    Calls Tryz.prog 79 #[tkV a Ua um uc A m c, .int .i64 pid, .int .i64 tid] w fun e w' => LvR w a U L j pid tid e w' := by
  have k1 := (Blk.new w (tkC a Ua um uc A m c) 27).alloc (.cells (tkC 0 none 0 0 none 0 0) 27)
  have k2 := Blk.new_ (w.alloc (.cells (tkC a Ua um uc A m c) 27)) (tkC 0 none 0 0 none 0 0) 27 (n := w.heap.size + 1) (by simp)
  have B0 := ((Below.refl w.heap.size w).alloc (Nat.le_refl _) (.cells (tkC a Ua um uc A m c) 27)).alloc (by simp) (.cells (tkC 0 none 0 0 none 0 0) 27)
  have CP := Lib.hid (rcopy_tk a Ua um uc U A m c L _ (h.on B0))
  have HX := Lib.hid h
  have HJF := Lib.hid (And.intro hj hf)
  have HU6 := Lib.hid hu6
  have hB0 := B0.size
  clear h hj hf hu6
  unfold tkV at CP ⊢
  go_enter Tryz.func79, Tryz.ntmps79
  go_wp2_with (first
    | (refine wpList_load_row rfl 27 (.tmp 3) rfl w.heap.size rfl 27 (tkC a Ua um uc A m c) (0, 0) _ k1.blk Tryz.underlying27 rfl (tk_inf _ _ _ _ _ _ _) ?_)
    | (refine CP.out.mono ?_
       clear CP
       rintro e w1 ⟨U1, um1, uc1, A1, m1, c1, M, rfl, o1, hn1, bb⟩
       have k11 := k1.below bb k1.lt
       have k21 := k2.below bb k2.lt
       have B1 := B0.trans (bb.mono B0.size)
       have o1 := o1.w.down hB0
       have HN := Lib.hid hn1
       clear hn1 bb k1 k2 B0
       unfold tkV
       go_wp2_with (first
         | (refine wpList_store_blk rfl 27 (.tmp 3) (.tmp 9) rfl w.heap.size (tkC a Ua um uc A m c) (tkC a U1 um1 uc1 A1 m1 c1) 27 rfl rfl k11 rfl (tk_inf _ _ _ _ _ _ _) (tk_one _ _ _ _ _ _ _) ?_
            intro w2 k12 n2
            have o2 := o1.kind n2 k11 (by decide) (by decide)
            have k22 := n2.blk7 k21 (by omega)
            have B2 := B1.trans (n2.below _ (Nat.le_refl _) B1.size)
            have hjM : j < M.length := by have h1 := congrArg List.length HN.out; rw [List.length_map, List.length_map] at h1; have := HJF.out.1; omega
            obtain ⟨gP, hA, hgP, hgPl⟩ := o2.p.at0 (by omega)
            subst hA
            have hxq : ∀ x ∈ M, x.1.t.length ≤ 1000000 := fun x hx => by
              have h1 : x.1 ∈ L.map (·.1) := by rw [← HN.out]; exact List.mem_map.2 ⟨x, hx, rfl⟩
              obtain ⟨y, hy, e⟩ := List.mem_map.1 h1
              rw [← e]
              exact (HX.out.p.tr y hy).l
            have FN := Lib.hid (find_rf a U1 um1 uc1 (some ⟨gP, 0, none⟩) m1 c1 M pid w2 (o2.ps hxq) o2.p.len (by have h1 := o2.p.len; have h2 := congrArg List.length HN.out; rw [List.length_map, List.length_map] at h2; have h3 := HX.out.pl; have h4 := HX.out.p6; omega))
            rw [fnd_nm 0 pid HN.out, HJF.out.2] at FN
            have HXQ := Lib.hid hxq
            unfold tkV at FN
            have HMJ := Lib.hid hjM
            clear n2 k11 k21 o1 B1 hxq hjM)
         | (refine wpList_load_row rfl 27 (.tmp 3) rfl w.heap.size rfl 27 (tkC a U1 um1 uc1 (some ⟨gP, 0, none⟩) m1 c1) (0, 0) _ k12.blk Tryz.underlying27 rfl (tk_inf _ _ _ _ _ _ _) ?_)
         | (refine FN.out.mono ?_
            clear FN
            rintro e w3 ⟨rfl, bb⟩
            have O2 := o2.below bb (Nat.le_refl _)
            have JD0 : LvS w a U1 um1 uc1 gP m1 c1 w3 := ⟨k12.below bb k12.lt, k22.below bb k22.lt, B2.trans (bb.mono B2.size)⟩
            clear o2 k12 k22 B2 bb))))
  have JD : LvS w a U1 um1 uc1 gP m1 c1 w3.drew := JD0.step (Below.refl _ _).drew
  have O2 := O2.below (Below.refl _ _).drew (Nat.le_refl _)
  obtain ⟨b8, off8, he8, _, hc8⟩ := O2.p.rs j HMJ.out
  cases he8
  rw [Nat.zero_add] at hc8
  have t2 : w3.drew.cell? ⟨gP, j * 3 + 2, none⟩ = some (.slice (M.getD j pw0).2.1 (M.getD j pw0).1.t.length (M.getD j pw0).2.2) := hc8 2 _ rfl
  have hxm : M.getD j pw0 ∈ M := by rw [show M.getD j pw0 = M[j]'HMJ.out by simp [List.getD, HMJ.out]]; exact List.getElem_mem _
  have WO := Lib.hid (without_rf (M.getD j pw0).2.1 (M.getD j pw0).1.t.length (M.getD j pw0).2.2 (M.getD j pw0).1.t tid w3.drew (O2.q _ hxm).ri rfl (HXQ.out _ hxm))
  have hjm : (j : Int) < (m1 : Int) := by have := O2.p.len; have := HMJ.out; omega
  have HJ := Lib.hid (And.intro HMJ.out HN.out)
  have J2 : w.heap.size ≤ w3.heap.size ∧ True := ⟨JD0.2.2.size, trivial⟩
  have hB2 : w3.heap.size ≤ w3.drew.heap.size := Nat.le_refl _
  clear hc8 hxm JD0
  obtain ⟨x, hx⟩ : ∃ x, M.getD j pw0 = x := ⟨_, rfl⟩
  rw [hx] at t2 WO
  have HX0 := Lib.hid hx
  clear hx
  refine region_cutP ?_
  refine wp_region_held_drew (S := LvS w a U1 um1 uc1 gP m1 c1) (by kernel_rfl) JD (fun _ => ?_)
  refine wpAnyH_take (i := 0) (v := .pointer (some ⟨w.heap.size, 2, none⟩)) rfl (by kernel_rfl) (by kernel_rfl) (by kernel_rfl) (fun _ _ _ h => nomatch h.1) (.inl ⟨by rfl, fun V hV => by go_simp⟩) JD ?_
  try simp only [Act.put, qA, qB, qC, qD, qE, qF]
  refine wpAnyH_take (i := 1) (v := .slice (some ⟨gP, 0, none⟩) m1 c1) rfl (by kernel_rfl) (by kernel_rfl) (by kernel_rfl) (fun _ _ _ h => nomatch h.1) (.inl ⟨by rfl, fun V hV => by have c2 : V.cell? ⟨w.heap.size, 2, none⟩ = some (.slice (some ⟨gP, 0, none⟩) m1 c1) := hV.1.cell 2; go_simp⟩) JD ?_
  try simp only [Act.put, qA, qB, qC, qD, qE, qF]
  refine wpAnyH_take (i := 2) (v := .int .i64 j) rfl (by kernel_rfl) (by kernel_rfl) (by kernel_rfl) (fun _ _ _ h => nomatch h.1) (.inl ⟨by rfl, fun V hV => by go_simp⟩) JD ?_
  try simp only [Act.put, qA, qB, qC, qD, qE, qF]
  refine wpAnyH_take (i := 3) (v := .pointer (some ⟨w.heap.size, 2, none⟩)) rfl (by kernel_rfl) (by kernel_rfl) (by kernel_rfl) (fun _ _ _ h => nomatch h.1) (.inl ⟨by rfl, fun V hV => by go_simp⟩) JD ?_
  try simp only [Act.put, qA, qB, qC, qD, qE, qF]
  refine wpAnyH_take (i := 4) (v := .slice (some ⟨gP, 0, none⟩) m1 c1) rfl (by kernel_rfl) (by kernel_rfl) (by kernel_rfl) (fun _ _ _ h => nomatch h.1) (.inl ⟨by rfl, fun V hV => by have c2 : V.cell? ⟨w.heap.size, 2, none⟩ = some (.slice (some ⟨gP, 0, none⟩) m1 c1) := hV.1.cell 2; go_simp⟩) JD ?_
  try simp only [Act.put, qA, qB, qC, qD, qE, qF]
  refine wpAnyH_take (i := 5) (v := .int .i64 j) rfl (by kernel_rfl) (by kernel_rfl) (by kernel_rfl) (fun _ _ _ h => nomatch h.1) (.inl ⟨by rfl, fun V hV => by go_simp⟩) JD ?_
  try simp only [Act.put, qA, qB, qC, qD, qE, qF]
  refine wpAnyH_take (i := 6) (v := .pointer (some ⟨gP, j * 3, none⟩)) rfl (by kernel_rfl) (by kernel_rfl) (by kernel_rfl) (fun _ _ _ h => nomatch h.1) (.inl ⟨by rfl, fun V hV => by go_simp⟩) JD ?_
  try simp only [Act.put, qA, qB, qC, qD, qE, qF]
  refine wpAnyH_take (i := 7) (v := .pointer (some ⟨gP, j * 3 + 2, none⟩)) rfl (by kernel_rfl) (by kernel_rfl) (by kernel_rfl) (fun _ _ _ h => nomatch h.1) (.inl ⟨by rfl, fun V hV => by go_simp⟩) JD ?_
  try simp only [Act.put, qA, qB, qC, qD, qE, qF]
  refine wpAnyH_take (i := 9) (v := .int .i64 tid) rfl (by kernel_rfl) (by kernel_rfl) (by kernel_rfl) (fun _ _ _ h => nomatch h.1) (.inl ⟨by rfl, fun V hV => by go_simp⟩) JD ?_
  try simp only [Act.put, qA, qB, qC, qD, qE, qF]
  refine wpAnyH_ready (rs := [8]) (by kernel_rfl) (by simp) ?_
  refine AllReadyH.cons rfl (fun K hK => ?_) AllReadyH.nil
  try simp only [Act.put, qA, qB, qC, qD, qE, qF]
  go_simp
  refine hK.out _ _ JD (fun _ => ?_)
  clear hK K
  try simp only [Act.put, qA, qB, qC, qD, qE, qF]
  refine wpAnyH_ready (rs := [10]) (by kernel_rfl) (by simp) ?_
  refine AllReadyH.cons rfl (fun K hK => ?_) AllReadyH.nil
  try simp only [Act.put, qA, qB, qC, qD, qE, qF]
  go_simp
  refine WO.out.mono ?_
  clear WO
  rintro e w3 ⟨G, gm, gc, rfl, z3, bb⟩
  go_wp2_with fail
  have hB4 := bb.size
  have JD := JD.step bb
  have O3 := O2.below bb (Nat.le_refl _)
  have hB3 := bb.size
  clear bb O2 t2
  refine hK.out _ _ JD (fun _ => ?_)
  clear hK K
  try simp only [Act.put, qA, qB, qC, qD, qE, qF]
  refine wpAnyH_take (i := 11) (v := .pointer (some ⟨gP, j * 3, none⟩)) rfl (by kernel_rfl) (by kernel_rfl) (by kernel_rfl) (fun _ _ _ h => nomatch h.1) (.inl ⟨by rfl, fun V hV => by go_simp⟩) JD ?_
  try simp only [Act.put, qA, qB, qC, qD, qE, qF]
  refine wpAnyH_take (i := 12) (v := .pointer (some ⟨gP, j * 3 + 2, none⟩)) rfl (by kernel_rfl) (by kernel_rfl) (by kernel_rfl) (fun _ _ _ h => nomatch h.1) (.inl ⟨by rfl, fun V hV => by go_simp⟩) JD ?_
  try simp only [Act.put, qA, qB, qC, qD, qE, qF]
  obtain ⟨b8, off8, he8, _, hc8⟩ := O3.p.rs j HJ.out.1
  cases he8
  rw [Nat.zero_add, HX0.out] at hc8
  have r1 : w3.cell? ⟨gP, j * 3 + 2, none⟩ = some (.slice x.2.1 x.1.t.length x.2.2) := hc8 2 _ rfl
  have f1 := World.ownsRow.frozenAt O3.p (j * 3 + 2)
  have HO4 := Lib.hid (O3.setTh HJ.out.1 (z3.down (b := w.heap.size) (Nat.le_trans J2.1 hB2)))
  have HJ4 := Lib.hid (JD.set O3 HJ.out.1 (.slice G gm gc))
  clear hc8 O3
  have HZL := Lib.hid z3.len
  refine wpAnyH_ready (rs := [13]) (by kernel_rfl) (by simp) ?_
  refine AllReadyH.cons rfl (fun K hK => ?_) AllReadyH.nil
  try simp only [Act.put, qA, qB, qC, qD, qE, qF]
  go_simp
  refine hK.out _ _ HJ4.out (fun _ => ?_)
  clear hK K
  try simp only [Act.put, qA, qB, qC, qD, qE, qF]
  refine wpAnyH_done (by kernel_rfl) ?_ _
  refine ⟨rfl, ?_⟩
  have HM6 := Lib.hid (show (M.set j (thP (M.getD j pw0) (woutF x.1.t tid) (G, gc))).map (·.1) = (L.map (·.1)).set j ⟨(L.getD j pw0).1.i, (L.getD j pw0).1.p, woutF (L.getD j pw0).1.t tid⟩ from by
    have e1 := getD_namesP HN.out j
    rw [HX0.out] at e1
    rw [List.map_set, HN.out, HX0.out, ← e1]
    rfl)
  obtain ⟨w4, hw4⟩ : ∃ W, w3.setCell ⟨gP, j * 3 + 2, none⟩ (.slice G gm gc) = W := ⟨_, rfl⟩
  rw [hw4] at HO4 HJ4 ⊢
  clear hw4 JD
  have J4 := HJ4.out
  have o4 := HO4.out
  cases htp : (tid != pid)
  · have HTP := Lib.hid htp
    go_wp2_with (first
      | (refine wpList_load_row rfl 27 (.tmp 3) rfl w.heap.size rfl 27 (tkC a U1 um1 uc1 (some ⟨gP, 0, none⟩) m1 c1) (0, 0) _ J4.1.blk Tryz.underlying27 rfl (tk_inf _ _ _ _ _ _ _) ?_)
      | (refine wpList_store_blk rfl 27 (.tmp 6) (.tmp 37) rfl (w.heap.size + 1) (tkC 0 none 0 0 none 0 0) (tkC a U1 um1 uc1 (some ⟨gP, 0, none⟩) m1 c1) 27 rfl rfl J4.2.1 rfl (tk_inf _ _ _ _ _ _ _) (tk_one _ _ _ _ _ _ _) ?_
         intro w5 k5 n5))
    refine bodyPost_ret (results_cell_row rfl _ _ (w.heap.size + 1) 27 (tkC a U1 um1 uc1 (some ⟨gP, 0, none⟩) m1 c1) (0, 0) _ rfl k5.blk Tryz.underlying27 rfl (tk_inf _ _ _ _ _ _ _)) rfl ?_
    exact ⟨a, U1, um1, uc1, U, _, m1, c1, _, rfl, o4.kind n5 J4.2.1 (by decide) (by decide), by rw [HTP.out, if_neg (by simp)], HM6.out, J4.2.2.trans (n5.below _ (by omega) J4.2.2.size)⟩
  · have HTP := Lib.hid htp
    have FR := Lib.hid (rfree_pid a U1 um1 uc1 U tid w4 o4.u.ri o4.u.len (by have h1 := o4.u.len; have h2 := HX.out.ul; have h3 := HU6.out; omega))
    unfold pdV pdC at FR
    have q0 : w4.cell? ⟨w.heap.size, 0, none⟩ = some (.int .i64 a) := J4.1.cell 0
    have q1 : w4.cell? ⟨w.heap.size, 1, none⟩ = some (.slice U1 um1 uc1) := J4.1.cell 1
    go_wp2_with (first
      | (refine FR.out.mono ?_
         clear FR q0 q1
         rintro e w5 ⟨U5, um5, uc5, a5, l5, er, rfl, z5, hfr, bb⟩
         have J5 := J4.step bb
         have o5 := o4.below bb (Nat.le_refl _)
         have z5 := z5.down (b := w.heap.size) J4.2.2.size
         have HFR := Lib.hid hfr
         clear bb hfr o4 J4
         go_wp2_with (first
           | (refine wpList_stpd rfl (.tmp 36) (.tmp 34) rfl w.heap.size a U1 um1 uc1 (some ⟨gP, 0, none⟩) m1 c1 a5 U5 um5 uc5 rfl rfl J5.1 ?_
              intro w6 k6 n6
              have o6 : OwnW w6 w.heap.size U5 um5 uc5 l5 (some ⟨gP, 0, none⟩) m1 c1 (M.set j (thP (M.getD j pw0) (woutF x.1.t tid) (G, gc))) := by
                have h9 := o5.kind n6 J5.1 (by decide) (by decide)
                exact ⟨own_kind z5 (grown_but n6) (fun g e => by cases e; exact ⟨_, _, J5.1, by decide⟩), h9.p, h9.q⟩
              have k26 := n6.blk7 J5.2.1 (by omega)
              have B6 := J5.2.2.trans (n6.below _ (Nat.le_refl _) J5.2.2.size)
              clear n6 J5 o5 z5)
           | (refine wpList_load_row rfl 27 (.tmp 3) rfl w.heap.size rfl 27 (tkC a5 U5 um5 uc5 (some ⟨gP, 0, none⟩) m1 c1) (0, 0) _ k6.blk Tryz.underlying27 rfl (tk_inf _ _ _ _ _ _ _) ?_)
           | (refine wpList_store_blk rfl 27 (.tmp 6) (.tmp 37) rfl (w.heap.size + 1) (tkC 0 none 0 0 none 0 0) (tkC a5 U5 um5 uc5 (some ⟨gP, 0, none⟩) m1 c1) 27 rfl rfl k26 rfl (tk_inf _ _ _ _ _ _ _) (tk_one _ _ _ _ _ _ _) ?_
              intro w7 k7 n7))))
    refine bodyPost_ret (results_cell_row rfl _ _ (w.heap.size + 1) 27 (tkC a5 U5 um5 uc5 (some ⟨gP, 0, none⟩) m1 c1) (0, 0) _ rfl k7.blk Tryz.underlying27 rfl (tk_inf _ _ _ _ _ _ _)) rfl ?_
    exact ⟨a5, U5, um5, uc5, l5, _, m1, c1, _, rfl, o6.kind n7 k26 (by decide) (by decide), by rw [HTP.out, if_pos rfl, HFR.out], HM6.out, B6.trans (n7.below _ (by omega) B6.size)⟩
end Go.Proofs.YtlelhhgggnjndaaGreat
