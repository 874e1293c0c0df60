/-
  The reference's New: a thread.
-/
import Derived.Test.YtlelhhgggnjndaaGreatQTrY
import Derived.Test.YtlelhhgggnjndaaGreatQTrA
namespace Go.Proofs.YtlelhhgggnjndaaGreat
open Go.RowKit Go.Shelf
set_option linter.unusedVariables false
set_option linter.unusedSimpArgs false
def NwR (w : World) (a : Int) (U : List Int) (id : Int) (P : List Pn) (e : Ending) (w' : World) : Prop := ∃ Ua um uc A m c M, e = .returned (.tuple #[tkV a Ua um uc A m c, .int .i64 id, .int .i64 0]) ∧ OwnW w' w.heap.size Ua um uc U A m c M ∧ M.map (·.1) = P ∧ Below w.heap.size w w'
def NwS (w : World) (g : Nat) (a : Int) (U1 : Option Addr) (um1 uc1 gP m1 c1 : Nat) (V : World) : Prop := Blk V g (tkC a U1 um1 uc1 (some ⟨gP, 0, none⟩) m1 c1) 27 ∧ Blk V (w.heap.size + 1) (tkC 0 none 0 0 none 0 0) 27 ∧ Below w.heap.size w V
theorem NwS.step {w : World} {g : Nat} {a : Int} {U1 : Option Addr} {um1 uc1 gP m1 c1 : Nat} {V V' : World} (h : NwS w g a U1 um1 uc1 gP m1 c1 V) (b : Below V.heap.size V V') : NwS w g a U1 um1 uc1 gP m1 c1 V' := ⟨h.1.below b h.1.lt, h.2.1.below b h.2.1.lt, h.2.2.trans (b.mono h.2.2.size)⟩
theorem NwS.set {w : World} {g : Nat} {a : Int} {U1 : Option Addr} {um1 uc1 gP m1 c1 j : Nat} {V : World} {l1 : List Int} {M : List Pw} (h : NwS w g a U1 um1 uc1 gP m1 c1 V) (o : OwnW V w.heap.size U1 um1 uc1 l1 (some ⟨gP, 0, none⟩) m1 c1 M) (hj : j < M.length) (v : Value) : NwS w g a U1 um1 uc1 gP m1 c1 (V.setCell ⟨gP, j * 3 + 2, none⟩ v) := by
  have n5 : But gP V (V.setCell ⟨gP, j * 3 + 2, none⟩ v) := (But.refl gP V).setCell (p := ⟨gP, j * 3 + 2, none⟩) (.inl rfl) _
  obtain ⟨curP, kP⟩ := roP_blk o.p rfl
  have hg : w.heap.size ≤ gP := by
    rcases o.p.form with ⟨e, _⟩ | ⟨g9, e, h2, _⟩
    · cases e
    · cases e; exact h2
  have hk : ∀ {g cs}, Blk V g cs 27 → Blk (V.setCell ⟨gP, j * 3 + 2, none⟩ v) g cs 27 := fun {g cs} k => n5.blk7 k (fun e => by rw [e] at k; exact absurd (blk_kind k kP) (by decide))
  exact ⟨hk h.1, hk h.2.1, h.2.2.trans (n5.below _ hg h.2.2.size)⟩
set_option maxRecDepth 100000 in
set_option maxHeartbeats 8000000 in
theorem newC_rf (an : Nat) (Ua : Option Addr) (um uc : Nat) (U : List Int) (A : Option Addr) (m c : Nat) (L : List Pw) (tid pid : Int) (j : Nat) (w : World) (h : Tk w w.heap.size Ua um uc U A m c L) (hI : Ids (an : Int) U) (hu6 : um ≤ 100000) (hof : ofR L tid = pid) (hp0 : (pid == 0) = false) (hN : (tidF L).length ≤ 1000) (hfull : (withs [] (tidF L)).length < 8) (hj : j < L.length) (hf : fndF 0 L pid = (j : Int)) (a' id : Int) (l' : List Int) (ht : takeV an U = (a', l', id, 0)) (hq5 : ∀ x ∈ L, x.1.t.length ≤ 100000) :
    Calls Tryz.prog 32 #[tkV an Ua um uc A m c, .int .i64 tid, .bool false] w fun e w' => NwR w a' l' id ((L.map (·.1)).set j ⟨(L.getD j pw0).1.i, (L.getD j pw0).1.p, withG id false (L.getD j pw0).1.t⟩) e w' := by
  have k1 := (Blk.new w (tkC an Ua um uc A m c) 27).alloc (.cells (tkC 0 none 0 0 none 0 0) 27)
  have k2 := Blk.new_ (w.alloc (.cells (tkC an Ua um uc A m c) 27)) (tkC 0 none 0 0 none 0 0) 27 (n := w.heap.size + 1) (by simp)
  have B0 := ((Below.refl w.heap.size w).alloc (Nat.le_refl _) (.cells (tkC an Ua um uc A m c) 27)).alloc (by simp) (.cells (tkC 0 none 0 0 none 0 0) 27)
  have t0 := h.on B0
  have OF := Lib.hid (of_rf an Ua um uc A m c L tid _ t0.p t0.pl (by have := h.p6; omega))
  rw [hof] at OF
  have LV := Lib.hid (fun (V : World) (hV : Below w.heap.size w V) => rlive_tk an Ua um uc A m c L V (h.on hV).p h.pl (by have := h.p6; omega) hN)
  obtain ⟨n, hn⟩ : ∃ n, (withs [] (tidF L)).length = n := ⟨_, rfl⟩
  rw [hn] at hfull
  have HNL := Lib.hid hn
  have hi8 : ¬ (8 : Int) ≤ (n : Int) := by omega
  have TK := Lib.hid (fun (V : World) (hV : Below w.heap.size w V) => rtake_pid an Ua um uc U V (h.on hV).u h.ul hu6 hI)
  have HQ5 := Lib.hid hq5
  have HX := Lib.hid (And.intro h (And.intro hj (And.intro hf (And.intro hu6 ht))))
  clear h t0 hof hn hN hI hu6 hj hf ht hq5
  unfold tkV at OF LV ⊢
  unfold pdV pdC at TK
  go_enter Tryz.func32, Tryz.ntmps32
  go_wp2_with (first
    | (refine wpList_load_row rfl 27 (.tmp 3) rfl w.heap.size rfl 27 (tkC an Ua um uc A m c) (0, 0) _ k1.blk Tryz.underlying27 rfl (tk_inf _ _ _ _ _ _ _) ?_)
    | (refine OF.out.mono ?_
       clear OF
       rintro e w1 ⟨rfl, bb⟩
       have k1 := k1.below bb k1.lt
       have k2 := k2.below bb k2.lt
       have B1 := B0.trans (bb.mono B0.size)
       clear bb B0)
    | (refine (LV.out _ B1).mono ?_
       clear LV
       rintro e w2 ⟨G, gm, gc, rfl, z1, bb⟩
       have k11 := k1.below bb k1.lt
       have k21 := k2.below bb k2.lt
       have B2 := B1.trans (bb.mono B1.size)
       obtain rfl : gm = n := z1.len.trans HNL.out
       have q0 : w2.cell? ⟨w.heap.size, 0, none⟩ = some (.int .i64 an) := k11.cell 0
       have q1 : w2.cell? ⟨w.heap.size, 1, none⟩ = some (.slice Ua um uc) := k11.cell 1
       clear bb z1 B1 k1 k2)
    | (refine (TK.out _ B2).mono ?_
       clear TK q0 q1
       rintro e w3 ⟨A3, m3, c3, a3, l3, id3, er3, rfl, z3, htk, bb⟩
       have HTK := Lib.hid (htk.symm.trans HX.out.2.2.2.2)
       clear htk
       obtain ⟨rfl, rfl, rfl, rfl⟩ : a3 = a' ∧ l3 = l' ∧ id3 = id ∧ er3 = 0 := by have := HTK.out; simpa using this
       have k12 := k11.below bb k11.lt
       have k22 := k21.below bb k21.lt
       have B3 := B2.trans (bb.mono B2.size)
       have hs3 := B2.size
       have bx : Below w.heap.size w3 (w3.alloc (.cells (pdC 0 none 0 0) 24)) := (Below.refl _ _).alloc B3.size _
       clear bb B2 k11 k21 HTK)
    | (refine wpList_store_blk rfl 24 (.tmp 10) (.tmp 45) rfl w3.heap.size (pdC 0 none 0 0) (pdC a3 A3 m3 c3) 24 rfl rfl (Blk.new w3 (pdC 0 none 0 0) 24) rfl (pd_inf _ _ _ _) (pd_one _ _ _ _) ?_
       intro w4 k4 n4
       have b4 : Below w3.heap.size w3 w4 := ((Below.refl w3.heap.size w3).alloc (Nat.le_refl _) _).trans (n4.below _ (Nat.le_refl _) (by simp))
       have k14 := k12.below b4 k12.lt
       have k24 := k22.below b4 k22.lt
       have z4 := (z3.down hs3).below b4 (Nat.le_refl _)
       have B4 := B3.trans (b4.mono B3.size)
       have hx4 : w.heap.size + 2 ≤ w3.heap.size := k22.lt
       have hw4 : w.heap.size ≤ w4.heap.size := B4.size
       have CP := Lib.hid (rcopy_tk an Ua um uc U A m c L w4 (HX.out.1.on B4))
       unfold tkV at CP
       clear b4 n4 k12 k22 z3 B3 bx)
    | (refine wpList_load_row rfl 27 (.tmp 3) rfl w.heap.size rfl 27 (tkC an Ua um uc A m c) (0, 0) _ k14.blk Tryz.underlying27 rfl (tk_inf _ _ _ _ _ _ _) ?_)
    | (refine CP.out.mono ?_
       clear CP
       rintro e w5 ⟨U5, um5, uc5, A5, m5, c5, M, rfl, o5, hnm, bb⟩
       have k15 := k4.below bb k4.lt
       have k25 := k24.below bb k24.lt
       have z5 := z4.below bb (Nat.le_refl _)
       have B5 := B4.trans (bb.mono B4.size)
       have hs5 := Nat.lt_of_lt_of_le k4.lt bb.size
       have HNM := Lib.hid hnm
       have HO5 := Lib.hid o5
       clear bb z4 k24 k4 k14 B4 hnm o5
       unfold tkV)
    | (refine wpList_store_blk rfl 27 (.tmp 13) (.tmp 53) rfl w5.heap.size (tkC 0 none 0 0 none 0 0) (tkC an U5 um5 uc5 A5 m5 c5) 27 rfl rfl (Blk.new w5 (tkC 0 none 0 0 none 0 0) 27) rfl (tk_inf _ _ _ _ _ _ _) (tk_one _ _ _ _ _ _ _) ?_
       intro w6 k6 n6
       have b6 : Below w5.heap.size w5 w6 := ((Below.refl w5.heap.size w5).alloc (Nat.le_refl _) _).trans (n6.below _ (Nat.le_refl _) (by simp))
       have k16 := k15.below b6 k15.lt
       have k26 := k25.below b6 k25.lt
       have z6 := z5.below b6 (Nat.le_refl _)
       have o6 := HO5.out.w.below b6 (Nat.le_refl _)
       have B6 := B5.trans (b6.mono B5.size)
       clear b6 n6 k15 k25 z5 B5)
    | (refine wpList_load_row rfl 24 (.tmp 10) rfl w3.heap.size rfl 24 (pdC a3 A3 m3 c3) (0, 0) _ k16.blk Tryz.underlying24 rfl (pd_inf _ _ _ _) ?_)
    | (refine wpList_stpd rfl (.tmp 55) (.tmp 54) rfl w5.heap.size an U5 um5 uc5 A5 m5 c5 a3 A3 m3 c3 rfl rfl k6 ?_
       intro w7 k7 n7
       have o7 : OwnW w7 w.heap.size A3 m3 c3 l3 A5 m5 c5 M := by
         have h9 := (o6.kind n7 k6 (by decide) (by decide)).down hw4
         exact ⟨own_kind z6 (grown_but n7) (fun g e => by cases e; exact ⟨_, _, k6, by decide⟩), h9.p, h9.q⟩
       have k27 := n7.blk7 k26 (by omega)
       have B7 := B6.trans (n7.below _ (by omega) B6.size)
       have hxq : ∀ x ∈ M, x.1.t.length ≤ 100000 := fun x hx => by
         have h1 : x.1 ∈ L.map (·.1) := by rw [← HNM.out]; exact List.mem_map.2 ⟨x, hx, rfl⟩
         obtain ⟨z, hz, e⟩ := List.mem_map.1 h1
         rw [← e]
         exact HQ5.out z hz
       have hml : M.length = L.length := by have h1 := congrArg List.length HNM.out; simpa using h1
       have FN := Lib.hid (find_rf a3 A3 m3 c3 A5 m5 c5 M pid w7 (o7.ps (fun x hx => Nat.le_trans (hxq x hx) (by decide))) o7.p.len (by have h1 := o7.p.len; have h2 := HX.out.1.pl; have h3 := HX.out.1.p6; omega))
       rw [fnd_nm 0 pid HNM.out, HX.out.2.2.1] at FN
       unfold tkV at FN
       have HXQ := Lib.hid hxq
       have HML := Lib.hid hml
       clear n7 k6 k16 k26 z6 o6 B6 hxq hml)
    | (refine wpList_load_row rfl 27 (.tmp 13) rfl w5.heap.size rfl 27 (tkC a3 A3 m3 c3 A5 m5 c5) (0, 0) _ k7.blk Tryz.underlying27 rfl (tk_inf _ _ _ _ _ _ _) ?_)
    | (refine FN.out.mono ?_
       clear FN
       rintro e w8 ⟨rfl, bb⟩
       have k18 := k7.below bb k7.lt
       have k28 := k27.below bb k27.lt
       have o8 := o7.below bb (Nat.le_refl _)
       have B8 := B7.trans (bb.mono B7.size)
       clear bb k7 k27 o7 B7))
  have hjM : j < M.length := by rw [HML.out]; exact HX.out.2.1
  obtain ⟨gP, hA, hgP, hgPl⟩ := o8.p.at0 (by omega)
  subst hA
  have JD : NwS w w5.heap.size a3 A3 m3 c3 gP m5 c5 w8.drew := NwS.step ⟨k18, k28, B8⟩ (Below.refl _ _).drew
  have O2 := o8.below (Below.refl _ _).drew (Nat.le_refl _)
  have hB9 : w8.heap.size ≤ w8.drew.heap.size := (Below.refl w8.heap.size w8).drew.size
  have hjm : (j : Int) < (m5 : Int) := by have := o8.p.len; omega
  have hb8 := B8.size
  have HJM := Lib.hid hjM
  obtain ⟨b8, off8, he8, _, hc8⟩ := O2.p.rs j hjM
  cases he8
  rw [Nat.zero_add] at hc8
  obtain ⟨x, hx⟩ : ∃ x, M.getD j pw0 = x := ⟨_, rfl⟩
  have HX0 := Lib.hid hx
  rw [hx] at hc8
  have t2 : w8.drew.cell? ⟨gP, j * 3 + 2, none⟩ = some (.slice x.2.1 x.1.t.length x.2.2) := hc8 2 _ rfl
  have hxm : x ∈ M := by rw [← hx, show M.getD j pw0 = M[j]'hjM by simp [List.getD, hjM]]; exact List.getElem_mem _
  have WO := Lib.hid (with_rf x.2.1 x.1.t.length x.2.2 x.1.t id3 w8.drew (O2.q _ hxm).ri rfl (HXQ.out _ hxm))
  clear hc8 hxm hx k18 k28 o8 hgP hgPl hjM
  refine region_cutP ?_
  refine wp_region_held_drew (S := NwS w w5.heap.size a3 A3 m3 c3 gP m5 c5) (by kernel_rfl) JD (fun _ => ?_)
  refine wpAnyH_take (i := 0) (v := .pointer (some ⟨w5.heap.size, 2, none⟩)) rfl (by kernel_rfl) (by kernel_rfl) (by kernel_rfl) (fun _ _ _ h => nomatch h.1) (.inl ⟨by rfl, fun V hV => by go_simp⟩) JD ?_
  try simp only [Act.put, qA, qB, qC, qD, qE, qF]
  refine wpAnyH_take (i := 1) (v := .slice (some ⟨gP, 0, none⟩) m5 c5) rfl (by kernel_rfl) (by kernel_rfl) (by kernel_rfl) (fun _ _ _ h => nomatch h.1) (.inl ⟨by rfl, fun V hV => by have c2 : V.cell? ⟨w5.heap.size, 2, none⟩ = some (.slice (some ⟨gP, 0, none⟩) m5 c5) := hV.1.cell 2; go_simp⟩) JD ?_
  try simp only [Act.put, qA, qB, qC, qD, qE, qF]
  refine wpAnyH_take (i := 2) (v := .int .i64 j) rfl (by kernel_rfl) (by kernel_rfl) (by kernel_rfl) (fun _ _ _ h => nomatch h.1) (.inl ⟨by rfl, fun V hV => by go_simp⟩) JD ?_
  try simp only [Act.put, qA, qB, qC, qD, qE, qF]
  refine wpAnyH_take (i := 3) (v := .pointer (some ⟨w5.heap.size, 2, none⟩)) rfl (by kernel_rfl) (by kernel_rfl) (by kernel_rfl) (fun _ _ _ h => nomatch h.1) (.inl ⟨by rfl, fun V hV => by go_simp⟩) JD ?_
  try simp only [Act.put, qA, qB, qC, qD, qE, qF]
  refine wpAnyH_take (i := 4) (v := .slice (some ⟨gP, 0, none⟩) m5 c5) rfl (by kernel_rfl) (by kernel_rfl) (by kernel_rfl) (fun _ _ _ h => nomatch h.1) (.inl ⟨by rfl, fun V hV => by have c2 : V.cell? ⟨w5.heap.size, 2, none⟩ = some (.slice (some ⟨gP, 0, none⟩) m5 c5) := hV.1.cell 2; go_simp⟩) JD ?_
  try simp only [Act.put, qA, qB, qC, qD, qE, qF]
  refine wpAnyH_take (i := 5) (v := .int .i64 j) rfl (by kernel_rfl) (by kernel_rfl) (by kernel_rfl) (fun _ _ _ h => nomatch h.1) (.inl ⟨by rfl, fun V hV => by go_simp⟩) JD ?_
  try simp only [Act.put, qA, qB, qC, qD, qE, qF]
  refine wpAnyH_take (i := 6) (v := .pointer (some ⟨gP, j * 3, none⟩)) rfl (by kernel_rfl) (by kernel_rfl) (by kernel_rfl) (fun _ _ _ h => nomatch h.1) (.inl ⟨by rfl, fun V hV => by go_simp⟩) JD ?_
  try simp only [Act.put, qA, qB, qC, qD, qE, qF]
  refine wpAnyH_take (i := 7) (v := .pointer (some ⟨gP, j * 3 + 2, none⟩)) rfl (by kernel_rfl) (by kernel_rfl) (by kernel_rfl) (fun _ _ _ h => nomatch h.1) (.inl ⟨by rfl, fun V hV => by go_simp⟩) JD ?_
  try simp only [Act.put, qA, qB, qC, qD, qE, qF]
  refine wpAnyH_take (i := 9) (v := .int .i64 id3) rfl (by kernel_rfl) (by kernel_rfl) (by kernel_rfl) (fun _ _ _ h => nomatch h.1) (.inl ⟨by rfl, fun V hV => by go_simp⟩) JD ?_
  try simp only [Act.put, qA, qB, qC, qD, qE, qF]
  refine wpAnyH_ready (rs := [8]) (by kernel_rfl) (by simp) ?_
  refine AllReadyH.cons rfl (fun K hK => ?_) AllReadyH.nil
  try simp only [Act.put, qA, qB, qC, qD, qE, qF]
  go_simp
  refine hK.out _ _ JD (fun _ => ?_)
  clear hK K
  try simp only [Act.put, qA, qB, qC, qD, qE, qF]
  refine wpAnyH_ready (rs := [10]) (by kernel_rfl) (by simp) ?_
  refine AllReadyH.cons rfl (fun K hK => ?_) AllReadyH.nil
  try simp only [Act.put, qA, qB, qC, qD, qE, qF]
  go_simp
  refine WO.out.mono ?_
  clear WO
  rintro e w9 ⟨G, gm, gc, rfl, z3, bb⟩
  go_wp2_with fail
  have hB4 := bb.size
  have JD := JD.step bb
  have O3 := O2.below bb (Nat.le_refl _)
  have hB3 := bb.size
  clear bb O2 t2
  refine hK.out _ _ JD (fun _ => ?_)
  clear hK K
  try simp only [Act.put, qA, qB, qC, qD, qE, qF]
  refine wpAnyH_take (i := 11) (v := .pointer (some ⟨gP, j * 3, none⟩)) rfl (by kernel_rfl) (by kernel_rfl) (by kernel_rfl) (fun _ _ _ h => nomatch h.1) (.inl ⟨by rfl, fun V hV => by go_simp⟩) JD ?_
  try simp only [Act.put, qA, qB, qC, qD, qE, qF]
  refine wpAnyH_take (i := 12) (v := .pointer (some ⟨gP, j * 3 + 2, none⟩)) rfl (by kernel_rfl) (by kernel_rfl) (by kernel_rfl) (fun _ _ _ h => nomatch h.1) (.inl ⟨by rfl, fun V hV => by go_simp⟩) JD ?_
  try simp only [Act.put, qA, qB, qC, qD, qE, qF]
  obtain ⟨b8, off8, he8, _, hc8⟩ := O3.p.rs j HJM.out
  cases he8
  rw [Nat.zero_add, HX0.out] at hc8
  have r1 : w9.cell? ⟨gP, j * 3 + 2, none⟩ = some (.slice x.2.1 x.1.t.length x.2.2) := hc8 2 _ rfl
  have f1 := World.ownsRow.frozenAt O3.p (j * 3 + 2)
  have HO4 := Lib.hid (O3.setTh HJM.out (z3.down (b := w.heap.size) (Nat.le_trans B8.size hB9)))
  have HJ4 := Lib.hid (JD.set O3 HJM.out (.slice G gm gc))
  clear hc8 O3
  have HZL := Lib.hid z3.len
  refine wpAnyH_ready (rs := [13]) (by kernel_rfl) (by simp) ?_
  refine AllReadyH.cons rfl (fun K hK => ?_) AllReadyH.nil
  try simp only [Act.put, qA, qB, qC, qD, qE, qF]
  go_simp
  refine hK.out _ _ HJ4.out (fun _ => ?_)
  clear hK K
  try simp only [Act.put, qA, qB, qC, qD, qE, qF]
  refine wpAnyH_done (by kernel_rfl) ?_ _
  refine ⟨rfl, ?_⟩
  have HM6 := Lib.hid (show (M.set j (thP (M.getD j pw0) (withG id3 false x.1.t) (G, gc))).map (·.1) = (L.map (·.1)).set j ⟨(L.getD j pw0).1.i, (L.getD j pw0).1.p, withG id3 false (L.getD j pw0).1.t⟩ from by
    have e1 := getD_namesP HNM.out j
    rw [HX0.out] at e1
    rw [List.map_set, HNM.out, HX0.out, ← e1]
    rfl)
  obtain ⟨w10, hw10⟩ : ∃ W, w9.setCell ⟨gP, j * 3 + 2, none⟩ (.slice G gm gc) = W := ⟨_, rfl⟩
  rw [hw10] at HO4 HJ4 ⊢
  clear hw10 JD
  have J4 := HJ4.out
  have o4 := HO4.out
  go_wp2_with (first
    | (refine wpList_load_row rfl 27 (.tmp 13) rfl w5.heap.size rfl 27 (tkC a3 A3 m3 c3 (some ⟨gP, 0, none⟩) m5 c5) (0, 0) _ J4.1.blk Tryz.underlying27 rfl (tk_inf _ _ _ _ _ _ _) ?_)
    | (refine wpList_store_blk rfl 27 (.tmp 6) (.tmp 74) rfl (w.heap.size + 1) (tkC 0 none 0 0 none 0 0) (tkC a3 A3 m3 c3 (some ⟨gP, 0, none⟩) m5 c5) 27 rfl rfl J4.2.1 rfl (tk_inf _ _ _ _ _ _ _) (tk_one _ _ _ _ _ _ _) ?_
       intro w11 k11 n11))
  refine bodyPost_ret (results_row_t2 rfl _ _ (w.heap.size + 1) 27 (tkC a3 A3 m3 c3 (some ⟨gP, 0, none⟩) m5 c5) _ rfl k11 Tryz.underlying27 rfl (tk_inf _ _ _ _ _ _ _) _ _ rfl rfl) rfl ?_
  exact ⟨A3, m3, c3, _, m5, c5, _, rfl, o4.kind n11 J4.2.1 (by decide) (by decide), HM6.out, J4.2.2.trans (n11.below _ (by omega) J4.2.2.size)⟩
end Go.Proofs.YtlelhhgggnjndaaGreat
