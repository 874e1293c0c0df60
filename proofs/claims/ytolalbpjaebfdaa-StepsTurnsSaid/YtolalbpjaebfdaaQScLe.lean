/-
  Plain: what the reference says of a lock that is taken or given up is what the program says.
-/
import Derived.Test.YtolalbpjaebfdaaQScEq
import Derived.Test.YtolalbpjaebfdaaQScLc
import Derived.Test.YtolalbpjaebfdaaQScRs
import Derived.Deep.CutRange
import Derived.Deep.CutBlock
namespace Go.Proofs.Ytolalbpjaebfdaa
open Go.RowKit Go.Shelf
set_option linter.unusedVariables false
set_option linter.unusedSimpArgs false
def ownK (K : List Kn) (n : Int) : Int := match K.find? (fun x => x.n == n) with | some x => x.o | none => 0
theorem ownerF_K (L : List Kw) (n : Int) : ownerF L n = ownK (L.map (·.1)) n := by
  unfold ownerF lockF ownK
  induction L with
  | nil => rfl
  | cons x L ih =>
    rw [List.map_cons, List.find?_cons, List.find?_cons]
    cases h : (x.1.n == n)
    · exact ih
    · rfl
theorem ownerF_in {L : List Kw} {n : Int} (hu : UpK L) (h : ownerF L n ≠ 0) : (numsK L).contains n = true := by
  cases hc : (numsK L).contains n
  · unfold ownerF at h
    rw [lockF_none hc] at h
    exact absurd rfl h
  · rfl
def giveF (R : List Rn) (K : List Kn) (id n : Int) : List Rn × List Kn × Int :=
  if (decide (n < 1) || decide (40 < n)) = true then ([], [], 2) else if (ownK K n != id) = true then ([], [], 231) else ((giveN R K n).1, (giveN R K n).2, 0)
def Thr (R : List Rn) (K : List Kn) : Prop := (∀ x ∈ K, ∀ i ∈ x.q, (numsR R).contains i = true) ∧ (numsR R).contains 0 = false
theorem thr_of {R : List Rn} {L : List Kw} (h : schB R L = true) : Thr R (L.map (·.1)) := by
  unfold schB queB at h
  simp only [Bool.and_eq_true, List.all_eq_true] at h
  obtain ⟨_, h1, _, _, _, h2, _⟩ := h
  have hu := riseT_up h1
  refine ⟨fun x hx i hi => ?_, ?_⟩
  · obtain ⟨y, hy, rfl⟩ := List.mem_map.1 hx
    have h3 := h2 y hy
    unfold lockQ at h3
    have h4 : ∀ (q p : List Int), qB R y.1.n p q = true → ∀ i ∈ q, wfB R y.1.n i = true := by
      intro q
      induction q with
      | nil => intro p _ i hi; cases hi
      | cons z q ih =>
        intro p hq i hi
        rw [qB, Bool.and_eq_true, Bool.and_eq_true] at hq
        rcases List.mem_cons.1 hi with rfl | hi
        · exact hq.1
        · exact ih _ hq.2.2 i hi
    have h5 := h4 _ _ h3 i hi
    unfold wfB at h5
    cases hc : (numsR R).contains i
    · rw [runF_none hc] at h5; cases h5
    · rfl
  · cases hc : (numsR R).contains 0
    · rfl
    · have := (hu.2 0 (List.contains_iff_mem.1 hc)).1
      omega
theorem okd_give {R : List Rn} {K : List Kn} {n : Int} (ok : Okd R K) (th : Thr R K) (hin : (K.map (·.n)).contains n = true) : Okd (giveN R K n).1 (giveN R K n).2 ∧ Thr (giveN R K n).1 (giveN R K n).2 := by
  have hk : lessP (K.map (·.n)) n < K.length := by
    have := (less_mem ok.uk hin).1
    rwa [List.length_map] at this
  have hm : K.getD (lessP (K.map (·.n)) n) kn0 ∈ K := getD_memK _ hk
  unfold giveN
  generalize lessP (K.map (·.n)) n = k at hk hm ⊢
  rcases hq : (K.getD k kn0).q with _ | ⟨h, t⟩
  · simp only
    have hs : (delL k K).Sublist K := by
      unfold delL
      have h1 : (K.drop (k + 1)).Sublist (K.drop k) := by
        rw [← List.drop_drop]
        exact List.drop_sublist _ _
      exact (List.Sublist.append (List.Sublist.refl _) h1).trans (by rw [List.take_append_drop]; exact List.Sublist.refl _)
    exact ⟨⟨ok.r, Nat.le_trans hs.length_le ok.k, fun x hx => ok.q x (mem_of_delL hx), ok.ur, ok.uk.sublist (hs.map _)⟩, fun x hx => th.1 x (mem_of_delL hx), th.2⟩
  · simp only
    have hh : (numsR R).contains h = true := th.1 _ hm h (by rw [hq]; exact List.mem_cons_self ..)
    obtain ⟨r1, r2, _⟩ := runF_some ok.ur hh
    have e1 : numsR (R.set (lessP (numsR R) h) ⟨h, 0, 0⟩) = numsR R := by
      unfold numsR
      rw [List.map_set]
      have h2 := set_same 0 (k := lessP (R.map numR) h) (L := R.map numR) (by rw [List.length_map]; exact r1)
      rw [show (R.map numR).getD (lessP (R.map numR) h) 0 = numR ⟨h, 0, 0⟩ by
        have : lessP (R.map numR) h < R.length := r1
        rw [show (R.map numR).getD (lessP (R.map numR) h) 0 = (R.getD (lessP (R.map numR) h) rn0).i by simp [List.getD, this, numR]]
        exact r2] at h2
      exact h2
    have ok1 := (ok.setR (y := ⟨h, 0, 0⟩) r1 r2.symm).setK (y := ⟨(K.getD k kn0).n, h, t⟩) hk rfl (by
      have := ok.q _ hm
      rw [hq] at this
      simp only [List.length_cons] at this
      show t.length ≤ 1000000
      omega)
    refine ⟨ok1, fun x hx i hi => ?_, by rw [e1]; exact th.2⟩
    rw [e1]
    rcases mem_set_orK hx with h9 | rfl
    · exact th.1 x h9 i hi
    · exact th.1 _ hm i (by rw [hq]; exact List.mem_cons_of_mem _ hi)
set_option maxRecDepth 100000 in
set_option maxHeartbeats 8000000 in
theorem give1_sc (gi gl : Nat) (id n : Int) (k : Nat) (R : List Rn) (K : List Kn) (ok : Okd R K) (th : Thr R K) (hid : id ≠ 0) :
    ChgR 0 52 #[.pointer (some ⟨gl, 0, none⟩), .pointer (some ⟨gi, 0, none⟩)] (fun V => Blk V gl #[.int .i64 n] 3 ∧ Blk V gi #[.int .i64 id] 3) none false false R K k (giveF R K id n) := by
  intro V B g gR m1 c1 A2 m2 c2 L hS _ _ hK own kg hBg _
  subst hK
  obtain ⟨hL, hI⟩ := hS
  have hgL : g < V.heap.size := kg.lt
  have hLl : gl < V.heap.size := hL.lt
  have hIl : gi < V.heap.size := hI.lt
  have hBV : B ≤ V.heap.size := Nat.le_trans hBg (Nat.le_of_lt hgL)
  have sc := own.sc' ok
  have huk : UpK L := by unfold UpK; rw [numsK_names]; exact ok.uk
  have HW := Lib.hid (fun (V' : World) (hV : Below V.heap.size V V') => owner1_sc n (sc.on hV) huk)
  have HOI := Lib.hid (fun (h : ownerF L n = id) => ownerF_in huk (by rw [h]; exact hid))
  have ho := ownerF_K L n
  unfold giveF
  rw [← ho]
  obtain ⟨ow, how⟩ : ∃ o, ownerF L n = o := ⟨_, rfl⟩
  rw [how] at HW HOI ⊢
  have HOK := Lib.hid ok
  have HTH := Lib.hid th
  have HT := Lib.hid own.t
  obtain ⟨r, hr⟩ : ∃ r : List Rn × List Kn × Int, r = (if (decide (n < 1) || decide (40 < n)) = true then ([], [], 2) else if (ow != id) = true then ([], [], 231) else ((giveN R (L.map (·.1)) n).1, (giveN R (L.map (·.1)) n).2, 0)) := ⟨_, rfl⟩
  rw [← hr]
  have HR := Lib.hid hr
  clear hr how ho sc huk ok th own
  have ql : V.cell? ⟨gl, 0, none⟩ = some (.int .i64 n) := hL.cell 0
  unfold scV at HW
  go_enter Try.func52, Try.ntmps52
  cases h1 : decide (n < 1)
  · cases h2 : decide (40 < n)
    · have HR2 := Lib.hid (show r = (if (ow != id) = true then ([], [], 231) else ((giveN R (L.map (·.1)) n).1, (giveN R (L.map (·.1)) n).2, 0)) by rw [HR.out, h1, h2]; rfl)
      clear HR
      go_wp2_with fail
      try simp only [Act.put]
      refine region_cutP ?_
      have Jd : Below V.heap.size V V.drew := (Below.refl _ _).drew
      refine wp_region_held_drew (S := (fun V' => Below V.heap.size V V')) (by kernel_rfl) Jd (fun _ => ?_)
      refine wpAnyH_take (i := 0) (v := .pointer (some ⟨g, 0, none⟩)) rfl (by kernel_rfl) (by kernel_rfl) (by kernel_rfl) (fun _ _ _ h => nomatch h.1) (.inl ⟨by rfl, fun V_ hV => by go_simp⟩) Jd ?_
      try simp only [Act.put, List.getElem_toArray, List.getElem_cons_zero, List.getElem_cons_succ, List.setIfInBounds_toArray, List.set_cons_zero, List.set_cons_succ]
      refine wpAnyH_take (i := 3) (v := .int .i64 n) rfl (by kernel_rfl) (by kernel_rfl) (by kernel_rfl) (fun _ _ _ h => nomatch h.1) (.inl ⟨by rfl, fun V_ hV => by have c2 : V_.cell? ⟨gl, 0, none⟩ = some (.int .i64 n) := (hL.below hV hLl).cell 0; go_simp⟩) Jd ?_
      try simp only [Act.put, List.getElem_toArray, List.getElem_cons_zero, List.getElem_cons_succ, List.setIfInBounds_toArray, List.set_cons_zero, List.set_cons_succ]
      refine wpAnyH_take (i := 5) (v := .int .i64 id) rfl (by kernel_rfl) (by kernel_rfl) (by kernel_rfl) (fun _ _ _ h => nomatch h.1) (.inl ⟨by rfl, fun V_ hV => by have c2 : V_.cell? ⟨gi, 0, none⟩ = some (.int .i64 id) := (hI.below hV hIl).cell 0; go_simp⟩) Jd ?_
      try simp only [Act.put, List.getElem_toArray, List.getElem_cons_zero, List.getElem_cons_succ, List.setIfInBounds_toArray, List.set_cons_zero, List.set_cons_succ]
      refine wpAnyH_take (i := 1) (v := .pointer (some ⟨g, 0, none⟩)) rfl (by kernel_rfl) (by kernel_rfl) (by kernel_rfl) (fun _ _ _ h => nomatch h.1) (.inl ⟨by rfl, fun V_ hV => by go_simp⟩) Jd ?_
      try simp only [Act.put, List.getElem_toArray, List.getElem_cons_zero, List.getElem_cons_succ, List.setIfInBounds_toArray, List.set_cons_zero, List.set_cons_succ]
      refine wpAnyH_take (i := 2) (v := .agg (scC (some ⟨gR, 0, none⟩) m1 c1 A2 m2 c2)) rfl (by kernel_rfl) (by kernel_rfl) (by kernel_rfl) (fun _ _ _ h => nomatch h.1) (yieldsIf_blk (by rfl) 25 (.tmp 14) rfl g rfl (scC (some ⟨gR, 0, none⟩) m1 c1 A2 m2 c2) 25 _ (fun _ h => kg.below h hgL) Try.underlying25 rfl (sc_inf _ _ _ _ _ _)) Jd ?_
      try simp only [Act.put, List.getElem_toArray, List.getElem_cons_zero, List.getElem_cons_succ, List.setIfInBounds_toArray, List.set_cons_zero, List.set_cons_succ]
      refine wpAnyH_ready (rs := [4]) (by kernel_rfl) (by simp) ?_
      refine AllReadyH.cons rfl (fun K hK => ?_) AllReadyH.nil
      try simp only [Act.put, List.getElem_toArray, List.getElem_cons_zero, List.getElem_cons_succ, List.setIfInBounds_toArray, List.set_cons_zero, List.set_cons_succ]
      go_simp
      refine (HW.out _ Jd).mono ?_
      rintro e W ⟨rfl, bb⟩
      go_wp2_with fail
      have Jd := Jd.trans (bb.mono Jd.size)
      clear bb
      refine hK.out _ _ Jd (fun _ => ?_)
      clear hK K
      try simp only [Act.put, List.getElem_toArray, List.getElem_cons_zero, List.getElem_cons_succ, List.setIfInBounds_toArray, List.set_cons_zero, List.set_cons_succ]
      refine wpAnyH_take (i := 6) (v := .bool (ow != id)) rfl (by kernel_rfl) (by kernel_rfl) (by kernel_rfl) (fun _ _ _ h => nomatch h.1) (.inl ⟨by rfl, fun V_ hV => by go_simp⟩) Jd ?_
      try simp only [Act.put, List.getElem_toArray, List.getElem_cons_zero, List.getElem_cons_succ, List.setIfInBounds_toArray, List.set_cons_zero, List.set_cons_succ]
      refine wpAnyH_done (by kernel_rfl) ?_ _
      refine ⟨rfl, ?_⟩
      clear HW
      have J7 := Jd
      clear Jd
      cases h3 : (ow != id)
      · have HR3 := Lib.hid (show r = ((giveN R (L.map (·.1)) n).1, (giveN R (L.map (·.1)) n).2, 0) by rw [HR2.out, h3]; rfl)
        have heq : ow = id := by simpa using h3
        have HIN := Lib.hid (HOI.out heq)
        clear HR2 heq HOI
        have ownW := HT.out.below J7
        have kgW := kg.below J7 hgL
        have qlW : W.cell? ⟨gl, 0, none⟩ = some (.int .i64 n) := (hL.below J7 hLl).cell 0
        have GV := Lib.hid (give_sc W B g (some ⟨gR, 0, none⟩) m1 c1 R A2 m2 c2 L n ownW kgW hBg HOK.out HIN.out (fun h t e => by
          have hx := lockF_some (L := L) (by unfold UpK; rw [numsK_names]; exact HOK.out.uk) HIN.out
          have hm : L.getD (lessP (numsK L) n) kw0 ∈ L := by
            rw [show L.getD (lessP (numsK L) n) kw0 = L[lessP (numsK L) n]'hx.1 by simp [List.getD, hx.1]]
            exact List.getElem_mem _
          exact HTH.out.1 (L.getD (lessP (numsK L) n) kw0).1 (List.mem_map.2 ⟨_, hm, rfl⟩) h (by rw [e]; exact List.mem_cons_self ..)))
        clear ownW kgW HT
        go_wp2_with (first
          | (refine GV.out.mono ?_
             clear GV
             rintro e W2 ⟨rfl, R', A4, m4, c4, L', gv⟩))
        go_ret
        have ee := gv.e
        have e1 : R' = (giveN R (L.map (·.1)) n).1 := congrArg Prod.fst ee
        have e2 : L'.map (·.1) = (giveN R (L.map (·.1)) n).2 := congrArg Prod.snd ee
        have okG := (okd_give HOK.out HTH.out (by rw [← numsK_names]; exact HIN.out)).1
        rw [← e1, ← e2] at okG
        refine ⟨by rw [HR3.out]; rfl, Bx.of ((J7.mono hBV).trans gv.b), (fun g e => by cases e), fun _ => ?_⟩
        rw [HR3.out]
        exact ⟨some ⟨gR, 0, none⟩, m1, c1, A4, m4, c4, L', gv.k, by rw [← e1]; exact gv.own.sc okG, e2, gv.own.fro⟩
      · have HR3 := Lib.hid (show r = ([], [], 231) by rw [HR2.out, h3]; rfl)
        clear HR2
        go_wp2_with fail
        go_ret
        exact ⟨by rw [HR3.out]; rfl, Bx.of (J7.mono hBV), (fun g e => by cases e), fun h => absurd (by rw [HR3.out] at h; exact h) (by decide)⟩
    · have HR2 := Lib.hid (show r = ([], [], 2) by rw [HR.out, h1, h2]; rfl)
      clear HR
      go_wp2_with fail
      go_ret
      exact ⟨by rw [HR2.out]; rfl, Bx.of (Below.refl _ _), (fun g e => by cases e), fun h => absurd (by rw [HR2.out] at h; exact h) (by decide)⟩
  · have HR2 := Lib.hid (show r = ([], [], 2) by rw [HR.out, h1]; rfl)
    clear HR
    go_wp2_with fail
    go_ret
    exact ⟨by rw [HR2.out]; rfl, Bx.of (Below.refl _ _), (fun g e => by cases e), fun h => absurd (by rw [HR2.out] at h; exact h) (by decide)⟩
def giveR (R : List Rn) (L : List Kw) (id n : Int) : List Rn × List Kn × Int := chgS R L (ofF R id (giveF R (L.map (·.1)) id n))
set_option maxRecDepth 100000 in
set_option maxHeartbeats 8000000 in
theorem give_pub (A : Option Addr) (m c : Nat) (R : List Rn) (A2 : Option Addr) (m2 c2 : Nat) (L : List Kw) (id n : Int) (w : World) (h : Sc w w.heap.size A m c R A2 m2 c2 L) :
    Calls Try.prog 20 #[scV A m c A2 m2 c2, .int .i64 id, .int .i64 n] w fun e w' => ∃ v, e = .returned (.tuple #[v, .int .i64 (giveR R L id n).2.2]) ∧ ScR w' w.heap.size v (giveR R L id n).1 (giveR R L id n).2.1 ∧ Below w.heap.size w w' := by
  have e1 := (((Blk.new w (scC A m c A2 m2 c2) 25).alloc (.cells #[.int .i64 id] 3)).alloc (.cells #[.int .i64 n] 3)).alloc (.cells #[.slice none 0 0, .slice none 0 0] 25)
  have e2 := ((Blk.new_ (w.alloc (.cells (scC A m c A2 m2 c2) 25)) #[.int .i64 id] 3 (n := w.heap.size + 1) (by simp)).alloc (.cells #[.int .i64 n] 3)).alloc (.cells #[.slice none 0 0, .slice none 0 0] 25)
  have e3 := (Blk.new_ ((w.alloc (.cells (scC A m c A2 m2 c2) 25)).alloc (.cells #[.int .i64 id] 3)) #[.int .i64 n] 3 (n := w.heap.size + 1 + 1) (by simp)).alloc (.cells #[.slice none 0 0, .slice none 0 0] 25)
  have e4 : Blk ((((w.alloc (.cells (scC A m c A2 m2 c2) 25)).alloc (.cells #[.int .i64 id] 3)).alloc (.cells #[.int .i64 n] 3)).alloc (.cells #[.slice none 0 0, .slice none 0 0] 25)) (w.heap.size + 1 + 1 + 1) (scC none 0 0 none 0 0) 25 := Blk.new_ _ _ _ (by simp)
  have B0 := ((((Below.refl w.heap.size w).alloc (Nat.le_refl _) (.cells (scC A m c A2 m2 c2) 25)).alloc (by simp) (.cells #[.int .i64 id] 3)).alloc (by simp; omega) (.cells #[.int .i64 n] 3)).alloc (by simp; omega) (.cells #[.slice none 0 0, .slice none 0 0] 25)
  have CO := Lib.hid (changedOf_sc 0 52 #[.pointer (some ⟨w.heap.size + 1 + 1, 0, none⟩), .pointer (some ⟨w.heap.size + 1, 0, none⟩)] (fun V => Blk V (w.heap.size + 1 + 1) #[.int .i64 n] 3 ∧ Blk V (w.heap.size + 1) #[.int .i64 id] 3) none false false A m c R A2 m2 c2 L id (giveF R (L.map (·.1)) id n) _ (enters_of Try.func52 (by kernel_rfl) rfl) (h.on B0) (fun k e => by cases e) (fun g e => by cases e) (Nat.zero_le _) (fun V hV => ⟨e3.below hV e3.lt, e2.below hV e2.lt⟩) (fun V V' hV hb => ⟨hV.1.below hb hV.1.lt, hV.2.below hb hV.2.lt⟩) (fun hc hl => by
    have hs : schB R L = true := by rcases scE_or R L with ⟨_, h2⟩ | ⟨h1, _⟩ <;> first | exact h2 | omega
    have ok := okd_of h hc
    exact give1_sc (w.heap.size + 1) (w.heap.size + 1 + 1) id n _ R (L.map (·.1)) ok (thr_of hs) (fun e => by
      have h5 := (lives_in ok.ur hl).1
      rw [e, (thr_of hs).2] at h5
      cases h5)))
  have hbb : (if scE R L = 0 then (if livesB R id = true then false else false) else false) = false := by split <;> (try split) <;> rfl
  unfold giveR
  obtain ⟨r', hr'⟩ : ∃ r', r' = chgS R L (ofF R id (giveF R (L.map (·.1)) id n)) := ⟨_, rfl⟩
  rw [← hr'] at CO ⊢
  clear h hr' e2 e3 hbb
  unfold scV at *
  go_enter Try.func20, Try.ntmps20
  go_wp2_with (first
    | (refine wpList_load_row rfl 25 (.tmp 3) rfl w.heap.size rfl 25 (scC A m c A2 m2 c2) (0, 0) _ e1.blk Try.underlying25 rfl (sc_inf A m c A2 m2 c2) ?_)
    | (refine CO.out.mono ?_
       clear CO
       rintro e w1 ⟨v, rfl, ⟨A5, m5, c5, A6, m6, c6, L5, rfl, sc5, hn5, fr5⟩, bx, ob⟩
       have b1 := bx.below
       have k41 := e4.below b1 e4.lt
       have b2 : Below w.heap.size w w1 := B0.trans (b1.mono B0.size)
       have fr6 := fr5.down B0.size
       have h4l := e4.lt
       clear bx ob e1 e4 b1
       unfold scV)
    | (refine wpList_store_blk rfl 25 (.tmp 6) (.tmp 12) rfl (w.heap.size + 1 + 1 + 1) (scC none 0 0 none 0 0) (scC A5 m5 c5 A6 m6 c6) 25 rfl rfl k41 rfl (sc_inf _ _ _ _ _ _) (sc_one _ _ _ _ _ _) ?_
       intro w2 h9 n9
       have sc9 := sc5.off' fr5 n9 h4l
       have b9 := b2.trans (n9.below _ (by omega) b2.size)
       clear sc5 b2 k41 n9))
  refine bodyPost_ret (results_row_tmp rfl _ _ (w.heap.size + 1 + 1 + 1) 25 (scC A5 m5 c5 A6 m6 c6) (0, 0) _ rfl h9.blk Try.underlying25 rfl (sc_inf _ _ _ _ _ _) _ rfl) rfl ?_
  exact ⟨_, rfl, ⟨A5, m5, c5, A6, m6, c6, L5, rfl, sc9, hn5, fr6⟩, b9⟩
end Go.Proofs.Ytolalbpjaebfdaa
namespace Go.Proofs.Ytolalbpjaebfdaa
open Go.RowKit Go.Shelf
set_option linter.unusedVariables false
set_option linter.unusedSimpArgs false
structure TL (w : World) (X Y : Array Value) (q0 q1 : Int) (V : World) : Prop where
  b : Below w.heap.size w V
  k3 : Blk V w.heap.size X 25
  k4 : Blk V (w.heap.size + 1) Y 25
  k5 : Blk V (w.heap.size + 1 + 1) #[.int .i64 q0, .int .i64 q1] 38
theorem TL.step {w : World} {X Y : Array Value} {q0 q1 : Int} {V V' : World} (h : TL w X Y q0 q1 V) (bb : Below V.heap.size V V') : TL w X Y q0 q1 V' :=
  ⟨h.b.trans (bb.mono h.b.size), h.k3.below bb h.k3.lt, h.k4.below bb h.k4.lt, h.k5.below bb h.k5.lt⟩
theorem TL.new (w : World) (X Y : Array Value) (q0 q1 : Int) : TL w X Y q0 q1 (((w.alloc (.cells X 25)).alloc (.cells Y 25)).alloc (.cells #[.int .i64 q0, .int .i64 q1] 38)) :=
  ⟨(((Below.refl w.heap.size w).alloc (Nat.le_refl _) _).alloc (by simp) _).alloc (by simp; omega) _, ((Blk.new w X 25).alloc _).alloc _, (Blk.new_ (w.alloc (.cells X 25)) Y 25 (n := w.heap.size + 1) (by simp)).alloc _, Blk.new_ _ _ _ (by simp)⟩
structure CpV (V : World) (R : List Rn) (L : List Kw) (A : Option Addr) (m c : Nat) (A2 : Option Addr) (m2 c2 : Nat) (L1 : List Kw) : Prop where
  sc : Sc V V.heap.size A m c R A2 m2 c2 L1
  nm : L1.map (·.1) = L.map (·.1)
theorem CpV.step {V V' : World} {R : List Rn} {L : List Kw} {A : Option Addr} {m c : Nat} {A2 : Option Addr} {m2 c2 : Nat} {L1 : List Kw} (h : CpV V R L A m c A2 m2 c2 L1) (b : Below V.heap.size V V') : CpV V' R L A m c A2 m2 c2 L1 := ⟨h.sc.on b, h.nm⟩
structure TM (w : World) (X Y : Array Value) (q0 q1 : Int) (g : Nat) (lx : Kw) (V : World) : Prop where
  t : TL w X Y q0 q1 V
  k : Blk V g (kwC lx) 48
theorem TM.step {w : World} {X Y : Array Value} {q0 q1 : Int} {g : Nat} {lx : Kw} {V V' : World} (h : TM w X Y q0 q1 g lx V) (bb : Below V.heap.size V V') : TM w X Y q0 q1 g lx V' := ⟨h.t.step bb, h.k.below bb h.k.lt⟩
end Go.Proofs.Ytolalbpjaebfdaa
namespace Go.Proofs.Ytolalbpjaebfdaa
open Go.RowKit Go.Shelf
set_option linter.unusedVariables false
set_option linter.unusedSimpArgs false
theorem take_snocI {l : List Int} {k : Nat} (h : k < l.length) : l.take (k + 1) = l.take k ++ [l.getD k 0] := by
  rw [List.take_succ_eq_append_getElem h, show l.getD k 0 = l[k] by simp [List.getD, h]]
end Go.Proofs.Ytolalbpjaebfdaa
namespace Go.Proofs.Ytolalbpjaebfdaa
open Go.RowKit Go.Shelf
set_option linter.unusedVariables false
set_option linter.unusedSimpArgs false
theorem filt_all {α : Type} (num : α → Int) (a : Int) {L : List α} (h : ∀ z ∈ L, num z ≠ a) : L.filter (fun y => num y != a) = L := List.filter_eq_self.2 fun z hz => by simpa using h z hz
theorem less_consLt {l : List Int} {x y : Int} (h : y < x) : lessP (y :: l) x = lessP l x + 1 := by unfold lessP; rw [List.countP_cons_of_pos (by simpa using h)]
theorem less_cons0 {l : List Int} {x y : Int} (hu : (y :: l).Pairwise (· < ·)) (h : x ≤ y) : lessP (y :: l) x = 0 := by
  unfold lessP
  rw [List.countP_eq_zero]
  intro z hz
  rw [List.pairwise_cons] at hu
  rcases List.mem_cons.1 hz with rfl | hz
  · simp; omega
  · have := hu.1 z hz
    simp; omega
theorem filt_del {α : Type} (num : α → Int) (n : Int) : ∀ {L : List α}, (L.map num).Pairwise (· < ·) → (L.map num).contains n = true → L.filter (fun y => num y != n) = delL (lessP (L.map num) n) L
  | [], _, h => by cases h
  | y :: L, hu, hc => by
    have hu' := hu
    rw [List.map_cons, List.pairwise_cons] at hu
    rw [List.filter_cons]
    by_cases h1 : n ≤ num y
    · have h2 : num y = n := by
        rw [List.contains_iff_mem, List.map_cons, List.mem_cons] at hc
        rcases hc with h | h
        · exact h.symm
        · have := hu.1 n h; omega
      have hl : lessP ((y :: L).map num) n = 0 := by rw [List.map_cons]; exact less_cons0 (by rw [← List.map_cons]; exact hu') h1
      rw [hl, if_neg (by simp [h2]), filt_all num n (fun z hz e => by have := hu.1 (num z) (List.mem_map.2 ⟨z, hz, rfl⟩); omega)]
      rfl
    · have hl : lessP ((y :: L).map num) n = lessP (L.map num) n + 1 := by rw [List.map_cons]; exact less_consLt (by omega)
      have hc2 : (L.map num).contains n = true := by
        rw [List.map_cons, List.contains_cons, show (n == num y) = false by simp; omega, Bool.false_or] at hc
        exact hc
      rw [hl, if_pos (by simp; omega), filt_del num n hu.2 hc2]
      rfl
structure Fit (R : List Rn) (K : List Kn) : Prop where
  ok : Okd R K
  th : Thr R K
  ow : ∀ x ∈ K, x.o ≠ 0
theorem fit_of {w : World} {B : Nat} {A : Option Addr} {m c : Nat} {R : List Rn} {A2 : Option Addr} {m2 c2 : Nat} {L : List Kw} (h : Sc w B A m c R A2 m2 c2 L) (hs : schB R L = true) : Fit R (L.map (·.1)) := by
  have hc : scE R L = 0 := by unfold scE; rw [if_pos hs]
  have ok := okd_of h hc
  have th := thr_of hs
  refine ⟨ok, th, fun x hx e => ?_⟩
  obtain ⟨y, hy, rfl⟩ := List.mem_map.1 hx
  unfold schB at hs
  simp only [Bool.and_eq_true, List.all_eq_true] at hs
  have h1 := hs.2.2.2.2.1 y hy
  unfold ownB at h1
  rw [Bool.and_eq_true, e] at h1
  have := (lives_in ok.ur h1.1).1
  rw [th.2] at this
  cases this
end Go.Proofs.Ytolalbpjaebfdaa
