/-
  steps.changedOf, over any change.
-/
import Derived.Test.YtolalbpjaebfdaaQScA
namespace Go.Proofs.Ytolalbpjaebfdaa
open Go.RowKit Go.Shelf
set_option linter.unusedVariables false
set_option linter.unusedSimpArgs false
abbrev ChgR (N : Nat) (cf : Nat) (cb : Array Value) (S : World → Prop) (o : Option Nat) (b0 b1 : Bool) (R : List Rn) (K : List Kn) (k : Nat) (r : List Rn × List Kn × Int) : Prop :=
  ∀ (V : World) (B g gR m1 c1 : Nat) (A2 : Option Addr) (m2 c2 : Nat) (L : List Kw), S V → Ob V o b0 → (∀ k, o = some k → k < B) → L.map (·.1) = K → Own V B (some ⟨gR, 0, none⟩) m1 c1 R A2 m2 c2 L → Blk V g (scC (some ⟨gR, 0, none⟩) m1 c1 A2 m2 c2) 25 → B ≤ g → N ≤ B →
    Calls Try.prog cf (#[.pointer (some ⟨g, 0, none⟩), .pointer (some ⟨gR, k * 3, none⟩)] ++ cb) V fun e V' => e = .returned (.int .i64 r.2.2) ∧ Bx B o V V' ∧ Ob V' o b1 ∧ (r.2.2 = 0 → ChO V' B g r)
def ofF (R : List Rn) (id : Int) (r : List Rn × List Kn × Int) : List Rn × List Kn × Int := if livesB R id = true then r else ([], [], 4)
theorem lives_in {R : List Rn} {id : Int} (hu : UpR R) (h : livesB R id = true) : (numsR R).contains id = true ∧ lessP (numsR R) id < R.length := by
  cases hc : (numsR R).contains id
  · unfold livesB at h
    rw [runF_none hc] at h
    cases h
  · exact ⟨rfl, (runF_some hu hc).1⟩
set_option maxRecDepth 100000 in
set_option maxHeartbeats 8000000 in
theorem changedOf1_sc (N : Nat) (gi gd : Nat) (id : Int) (cf : Nat) (cb : Array Value) (S : World → Prop) (o : Option Nat) (b0 b1 : Bool) (R : List Rn) (K : List Kn) (r : List Rn × List Kn × Int) (ok : Okd R K)
    (ec : ∀ args w, (callFunc cf args).run Try.prog w = .ok (.enter cf args) w) (hSm : ∀ V V', S V → Below V.heap.size V V' → S V') (hc : livesB R id = true → ChgR N cf cb S o b0 b1 R K (lessP (numsR R) id) r) :
    Chg N 73 #[.pointer (some ⟨gi, 0, none⟩), .pointer (some ⟨gd, 0, none⟩)] (fun V => Blk V gi #[.int .i64 id] 3 ∧ Blk V gd #[.func (.func cf) #[] cb] 71 ∧ S V) o b0 (if livesB R id = true then b1 else b0) R K (ofF R id r) := by
  intro V B g A1 m1 c1 A2 m2 c2 L hs0 hob ho hK own kg hBg hNB
  obtain ⟨hS, hD, hS2⟩ := hs0
  subst hK
  have hgi : gi < V.heap.size := hS.lt
  have hgd : gd < V.heap.size := hD.lt
  have hgl : g < V.heap.size := kg.lt
  have hBV : B ≤ V.heap.size := Nat.le_trans hBg (Nat.le_of_lt hgl)
  have sc := own.sc' ok
  have LV := Lib.hid (fun (V' : World) (hV : Below V.heap.size V V') => lives_sc id (sc.on hV) ok.ur)
  have RN := Lib.hid (fun (V' : World) (hV : Below V.heap.size V V') => run_sc id (sc.on hV) ok.ur)
  have HIN := Lib.hid (fun (h : livesB R id = true) => lives_in ok.ur h)
  have HC := Lib.hid hc
  have HSM := Lib.hid hSm
  have HS2 := Lib.hid hS2
  have HO := Lib.hid ho
  have HOB := Lib.hid hob
  have HLEN := Lib.hid own.rr.len
  unfold ofF
  generalize livesB R id = lv at LV HIN HC ⊢
  obtain ⟨rr, hrr⟩ : ∃ rr : List Rn × List Kn × Int, rr = (if lv = true then r else ([], [], 4)) := ⟨_, rfl⟩
  obtain ⟨bb1, hbb⟩ : ∃ b : Bool, b = (if lv = true then b1 else b0) := ⟨_, rfl⟩
  rw [← hrr, ← hbb]
  have HRR := Lib.hid hrr
  have HBB := Lib.hid hbb
  clear hrr hbb
  clear sc ok hob hc hSm hS2 ho
  unfold scV at LV RN
  have Jd : Below V.heap.size V V.drew := (Below.refl _ _).drew
  go_enter Try.func73, Try.ntmps73
  go_wp2_with fail
  refine region_cutP ?_
  refine wp_region_held_drew (S := (fun V' => Below V.heap.size V V')) (by kernel_rfl) Jd (fun _ => ?_)
  refine wpAnyH_take (i := 0) (v := .pointer (some ⟨g, 0, none⟩)) rfl (by kernel_rfl) (by kernel_rfl) (by kernel_rfl) (fun _ _ _ h => nomatch h.1) (.inl ⟨by rfl, fun V_ hV => by go_simp⟩) Jd ?_
  try simp only [Act.put, List.getElem_toArray, List.getElem_cons_zero, List.getElem_cons_succ, List.setIfInBounds_toArray, List.set_cons_zero, List.set_cons_succ]
  refine wpAnyH_take (i := 3) (v := .int .i64 id) rfl (by kernel_rfl) (by kernel_rfl) (by kernel_rfl) (fun _ _ _ h => nomatch h.1) (.inl ⟨by rfl, fun V_ hV => by have c2 : V_.cell? ⟨gi, 0, none⟩ = some (.int .i64 id) := (hS.below hV hgi).cell 0; go_simp⟩) Jd ?_
  try simp only [Act.put, List.getElem_toArray, List.getElem_cons_zero, List.getElem_cons_succ, List.setIfInBounds_toArray, List.set_cons_zero, List.set_cons_succ]
  refine wpAnyH_take (i := 1) (v := .pointer (some ⟨g, 0, none⟩)) rfl (by kernel_rfl) (by kernel_rfl) (by kernel_rfl) (fun _ _ _ h => nomatch h.1) (.inl ⟨by rfl, fun V_ hV => by go_simp⟩) Jd ?_
  try simp only [Act.put, List.getElem_toArray, List.getElem_cons_zero, List.getElem_cons_succ, List.setIfInBounds_toArray, List.set_cons_zero, List.set_cons_succ]
  refine wpAnyH_take (i := 2) (v := .agg (scC A1 m1 c1 A2 m2 c2)) rfl (by kernel_rfl) (by kernel_rfl) (by kernel_rfl) (fun _ _ _ h => nomatch h.1) (yieldsIf_blk (by rfl) 25 (.tmp 8) rfl g rfl (scC A1 m1 c1 A2 m2 c2) 25 _ (fun _ h => kg.below h hgl) Try.underlying25 rfl (sc_inf _ _ _ _ _ _)) Jd ?_
  try simp only [Act.put, List.getElem_toArray, List.getElem_cons_zero, List.getElem_cons_succ, List.setIfInBounds_toArray, List.set_cons_zero, List.set_cons_succ]
  refine wpAnyH_ready (rs := [4]) (by kernel_rfl) (by simp) ?_
  refine AllReadyH.cons rfl (fun K hK => ?_) AllReadyH.nil
  try simp only [Act.put, List.getElem_toArray, List.getElem_cons_zero, List.getElem_cons_succ, List.setIfInBounds_toArray, List.set_cons_zero, List.set_cons_succ]
  go_simp
  refine (LV.out _ Jd).mono ?_
  rintro e W ⟨rfl, bb⟩
  go_wp2_with fail
  have Jd := Jd.trans (bb.mono Jd.size)
  clear bb
  refine hK.out _ _ Jd (fun _ => ?_)
  clear hK K
  try simp only [Act.put, List.getElem_toArray, List.getElem_cons_zero, List.getElem_cons_succ, List.setIfInBounds_toArray, List.set_cons_zero, List.set_cons_succ]
  refine wpAnyH_take (i := 5) (v := .bool (!lv)) rfl (by kernel_rfl) (by kernel_rfl) (by kernel_rfl) (fun _ _ _ h => nomatch h.1) (.inl ⟨by rfl, fun V_ hV => by go_simp⟩) Jd ?_
  try simp only [Act.put, List.getElem_toArray, List.getElem_cons_zero, List.getElem_cons_succ, List.setIfInBounds_toArray, List.set_cons_zero, List.set_cons_succ]
  refine wpAnyH_done (by kernel_rfl) ?_ _
  refine ⟨rfl, ?_⟩
  cases lv
  · have B7 := Jd
    clear Jd LV RN
    have er : rr = ([], [], 4) := by rw [HRR.out, if_neg (by simp)]
    have eb : bb1 = b0 := by rw [HBB.out, if_neg (by simp)]
    clear HRR HBB
    have HF := Lib.hid (show rr.2.2 = 4 ∧ Bx B o V W ∧ Ob W o bb1 ∧ (rr.2.2 = 0 → ChO W B g rr) from ⟨by rw [er], Bx.of (B7.mono hBV), by rw [eb]; exact HOB.out.below B7 (fun g e => Nat.lt_of_lt_of_le (HO.out g e) hBV), fun h => absurd (by rw [er] at h; exact h) (by decide)⟩)
    clear er eb
    go_wp2_with fail
    go_ret
    exact ⟨by rw [HF.out.1]; rfl, HF.out.2⟩
  · obtain ⟨hct, hlt⟩ := HIN.out rfl
    rw [hct] at RN
    have HC2 := Lib.hid (HC.out rfl)
    have er : rr = r := by rw [HRR.out, if_pos rfl]
    have eb : bb1 = b1 := by rw [HBB.out, if_pos rfl]
    clear HRR HBB
    subst er eb
    clear HC HIN LV hct
    obtain ⟨gR, rfl, _, _⟩ := own.rr.at0 (by omega)
    have hml := HLEN.out
    have hkm : (lessP (numsR R) id : Int) < (m1 : Int) := by omega
    clear hml hlt HLEN
    generalize lessP (numsR R) id = at_ at HC2 RN hkm
    go_wp2_with fail
    try simp only [Act.put]
    refine region_cutP ?_
    have Jd := Jd.drew
    refine wp_region_held_drew (S := (fun V' => Below V.heap.size V V')) (by kernel_rfl) Jd (fun _ => ?_)
    refine wpAnyH_take (i := 0) (v := .pointer (some ⟨g, 0, none⟩)) rfl (by kernel_rfl) (by kernel_rfl) (by kernel_rfl) (fun _ _ _ h => nomatch h.1) (.inl ⟨by rfl, fun V_ hV => by go_simp⟩) Jd ?_
    try simp only [Act.put, List.getElem_toArray, List.getElem_cons_zero, List.getElem_cons_succ, List.setIfInBounds_toArray, List.set_cons_zero, List.set_cons_succ]
    refine wpAnyH_take (i := 3) (v := .int .i64 id) rfl (by kernel_rfl) (by kernel_rfl) (by kernel_rfl) (fun _ _ _ h => nomatch h.1) (.inl ⟨by rfl, fun V_ hV => by have c2 : V_.cell? ⟨gi, 0, none⟩ = some (.int .i64 id) := (hS.below hV hgi).cell 0; go_simp⟩) Jd ?_
    try simp only [Act.put, List.getElem_toArray, List.getElem_cons_zero, List.getElem_cons_succ, List.setIfInBounds_toArray, List.set_cons_zero, List.set_cons_succ]
    refine wpAnyH_take (i := 1) (v := .pointer (some ⟨g, 0, none⟩)) rfl (by kernel_rfl) (by kernel_rfl) (by kernel_rfl) (fun _ _ _ h => nomatch h.1) (.inl ⟨by rfl, fun V_ hV => by go_simp⟩) Jd ?_
    try simp only [Act.put, List.getElem_toArray, List.getElem_cons_zero, List.getElem_cons_succ, List.setIfInBounds_toArray, List.set_cons_zero, List.set_cons_succ]
    refine wpAnyH_take (i := 2) (v := .agg (scC (some ⟨gR, 0, none⟩) m1 c1 A2 m2 c2)) rfl (by kernel_rfl) (by kernel_rfl) (by kernel_rfl) (fun _ _ _ h => nomatch h.1) (yieldsIf_blk (by rfl) 25 (.tmp 15) rfl g rfl (scC (some ⟨gR, 0, none⟩) m1 c1 A2 m2 c2) 25 _ (fun _ h => kg.below h hgl) Try.underlying25 rfl (sc_inf _ _ _ _ _ _)) Jd ?_
    try simp only [Act.put, List.getElem_toArray, List.getElem_cons_zero, List.getElem_cons_succ, List.setIfInBounds_toArray, List.set_cons_zero, List.set_cons_succ]
    refine wpAnyH_ready (rs := [4]) (by kernel_rfl) (by simp) ?_
    refine AllReadyH.cons rfl (fun K hK => ?_) AllReadyH.nil
    try simp only [Act.put, List.getElem_toArray, List.getElem_cons_zero, List.getElem_cons_succ, List.setIfInBounds_toArray, List.set_cons_zero, List.set_cons_succ]
    go_simp
    refine (RN.out _ Jd).mono ?_
    rintro e W3 ⟨rfl, bb⟩
    go_wp2_with fail
    have Jd := Jd.trans (bb.mono Jd.size)
    clear bb
    refine hK.out _ _ Jd (fun _ => ?_)
    clear hK K
    try simp only [Act.put, List.getElem_toArray, List.getElem_cons_zero, List.getElem_cons_succ, List.setIfInBounds_toArray, List.set_cons_zero, List.set_cons_succ]
    refine wpAnyH_take (i := 5) (v := .tuple #[.int .i64 at_, .bool true]) rfl (by kernel_rfl) (by kernel_rfl) (by kernel_rfl) (fun _ _ _ h => nomatch h.1) (.inl ⟨by rfl, fun V_ hV => by go_simp⟩) Jd ?_
    try simp only [Act.put, List.getElem_toArray, List.getElem_cons_zero, List.getElem_cons_succ, List.setIfInBounds_toArray, List.set_cons_zero, List.set_cons_succ]
    refine wpAnyH_take (i := 6) (v := .int .i64 at_) rfl (by kernel_rfl) (by kernel_rfl) (by kernel_rfl) (fun _ _ _ h => nomatch h.1) (.inl ⟨by rfl, fun V_ hV => by go_simp⟩) Jd ?_
    try simp only [Act.put, List.getElem_toArray, List.getElem_cons_zero, List.getElem_cons_succ, List.setIfInBounds_toArray, List.set_cons_zero, List.set_cons_succ]
    refine wpAnyH_take (i := 7) (v := .bool true) rfl (by kernel_rfl) (by kernel_rfl) (by kernel_rfl) (fun _ _ _ h => nomatch h.1) (.inl ⟨by rfl, fun V_ hV => by go_simp⟩) Jd ?_
    try simp only [Act.put, List.getElem_toArray, List.getElem_cons_zero, List.getElem_cons_succ, List.setIfInBounds_toArray, List.set_cons_zero, List.set_cons_succ]
    refine wpAnyH_take (i := 8) (v := .int .i64 at_) rfl (by kernel_rfl) (by kernel_rfl) (by kernel_rfl) (fun _ _ _ h => nomatch h.1) (.inl ⟨by rfl, fun V_ hV => by go_simp⟩) Jd ?_
    try simp only [Act.put, List.getElem_toArray, List.getElem_cons_zero, List.getElem_cons_succ, List.setIfInBounds_toArray, List.set_cons_zero, List.set_cons_succ]
    refine wpAnyH_take (i := 9) (v := .bool true) rfl (by kernel_rfl) (by kernel_rfl) (by kernel_rfl) (fun _ _ _ h => nomatch h.1) (.inl ⟨by rfl, fun V_ hV => by go_simp⟩) Jd ?_
    try simp only [Act.put, List.getElem_toArray, List.getElem_cons_zero, List.getElem_cons_succ, List.setIfInBounds_toArray, List.set_cons_zero, List.set_cons_succ]
    refine wpAnyH_done (by kernel_rfl) ?_ _
    refine ⟨rfl, ?_⟩
    have B7 := Jd
    clear Jd RN
    go_wp2_with fail
    try simp only [Act.put]
    refine region_cutP ?_
    have B8 := B7.drew
    have kg := kg.below B8 hgl
    have kd := hD.below B8 hgd
    have own := own.below B8 (Nat.le_refl _)
    have sz2 := HSM.out _ _ HS2.out B8
    have obz := HOB.out.below B8 (fun g e => Nat.lt_of_lt_of_le (HO.out g e) hBV)
    clear B7 hS hD HSM HS2 HOB
    have J : True := trivial
    refine wp_region_held_drew (S := fun _ => True) (by kernel_rfl) J (fun _ => ?_)
    generalize W3.drew = WZ at B8 kg kd own sz2 obz ⊢
    refine wpAnyH_take (i := 1) (v := .pointer (some ⟨g, 0, none⟩)) rfl (by kernel_rfl) (by kernel_rfl) (by kernel_rfl) (fun _ _ _ h => nomatch h.1) (.inl ⟨by rfl, fun V hV => by go_simp⟩) J ?_
    try simp only [Act.put, List.getElem_toArray, List.getElem_cons_zero, List.getElem_cons_succ, List.setIfInBounds_toArray, List.set_cons_zero, List.set_cons_succ]
    refine wpAnyH_take (i := 2) (v := .pointer (some ⟨g, 0, none⟩)) rfl (by kernel_rfl) (by kernel_rfl) (by kernel_rfl) (fun _ _ _ h => nomatch h.1) (.inl ⟨by rfl, fun V hV => by go_simp⟩) J ?_
    try simp only [Act.put, List.getElem_toArray, List.getElem_cons_zero, List.getElem_cons_succ, List.setIfInBounds_toArray, List.set_cons_zero, List.set_cons_succ]
    refine wpAnyH_take (i := 6) (v := .int .i64 at_) rfl (by kernel_rfl) (by kernel_rfl) (by kernel_rfl) (fun _ _ _ h => nomatch h.1) (.inl ⟨by rfl, fun V hV => by go_simp⟩) J ?_
    try simp only [Act.put, List.getElem_toArray, List.getElem_cons_zero, List.getElem_cons_succ, List.setIfInBounds_toArray, List.set_cons_zero, List.set_cons_succ]
    refine wpAnyH_take (i := 3) (v := .pointer (some ⟨g, 0, none⟩)) rfl (by kernel_rfl) (by kernel_rfl) (by kernel_rfl) (fun _ _ _ h => nomatch h.1) (.inl ⟨by rfl, fun V hV => by go_simp⟩) J ?_
    try simp only [Act.put, List.getElem_toArray, List.getElem_cons_zero, List.getElem_cons_succ, List.setIfInBounds_toArray, List.set_cons_zero, List.set_cons_succ]
    refine wpAnyH_take (i := 4) (v := .pointer (some ⟨g, 0, none⟩)) rfl (by kernel_rfl) (by kernel_rfl) (by kernel_rfl) (fun _ _ _ h => nomatch h.1) (.inl ⟨by rfl, fun V hV => by go_simp⟩) J ?_
    try simp only [Act.put, List.getElem_toArray, List.getElem_cons_zero, List.getElem_cons_succ, List.setIfInBounds_toArray, List.set_cons_zero, List.set_cons_succ]
    refine wpAnyH_ready (rs := [0, 5]) (by kernel_rfl) (by simp) ?_
    refine AllReadyH.cons rfl (fun K hK => ?_) (AllReadyH.cons rfl (fun K hK => ?_) AllReadyH.nil)
    · try simp only [Act.put, List.getElem_toArray, List.getElem_cons_zero, List.getElem_cons_succ, List.setIfInBounds_toArray, List.set_cons_zero, List.set_cons_succ]
      have qq := kd.cell 0
      change _ = some (Value.func (.func cf) #[] cb) at qq
      go_simp
      clear qq
      refine hK.out _ _ J (fun _ => ?_)
      clear hK K
      try simp only [Act.put, List.getElem_toArray, List.getElem_cons_zero, List.getElem_cons_succ, List.setIfInBounds_toArray, List.set_cons_zero, List.set_cons_succ]
      refine wpAnyH_ready (rs := [5]) (by kernel_rfl) (by simp) ?_
      refine AllReadyH.cons rfl (fun K hK => ?_) AllReadyH.nil
      try simp only [Act.put, List.getElem_toArray, List.getElem_cons_zero, List.getElem_cons_succ, List.setIfInBounds_toArray, List.set_cons_zero, List.set_cons_succ]
      have qq := kg.cell 0
      change _ = some (Value.slice (some ⟨gR, 0, none⟩) m1 c1) at qq
      go_simp
      clear qq
      refine hK.out _ _ J (fun _ => ?_)
      clear hK K
      try simp only [Act.put, List.getElem_toArray, List.getElem_cons_zero, List.getElem_cons_succ, List.setIfInBounds_toArray, List.set_cons_zero, List.set_cons_succ]
      refine wpAnyH_take (i := 7) (v := .pointer (some ⟨gR, at_ * 3, none⟩)) rfl (by kernel_rfl) (by kernel_rfl) (by kernel_rfl) (fun _ _ _ h => nomatch h.1) (.inl ⟨by rfl, fun V hV => by go_simp⟩) J ?_
      try simp only [Act.put, List.getElem_toArray, List.getElem_cons_zero, List.getElem_cons_succ, List.setIfInBounds_toArray, List.set_cons_zero, List.set_cons_succ]
      refine wpAnyH_ready (rs := [8]) (by kernel_rfl) (by simp) ?_
      refine AllReadyH.cons rfl (fun K hK => ?_) AllReadyH.nil
      try simp only [Act.put, List.getElem_toArray, List.getElem_cons_zero, List.getElem_cons_succ, List.setIfInBounds_toArray, List.set_cons_zero, List.set_cons_succ]
      have HZ := Lib.hid (HC2.out WZ B g gR m1 c1 A2 m2 c2 L sz2 obz HO.out rfl own kg hBg hNB)
      have HB8 := Lib.hid (Bx.of (o := o) (B8.mono hBV))
      clear HC2 sz2 obz own kg kd B8 HO
      go_simp
      refine HZ.out.mono ?_
      clear HZ
      rintro e W8 ⟨rfl, bx, ob, hr⟩
      go_wp2_with fail
      refine hK.out _ _ J (fun _ => ?_)
      clear hK K
      try simp only [Act.put, List.getElem_toArray, List.getElem_cons_zero, List.getElem_cons_succ, List.setIfInBounds_toArray, List.set_cons_zero, List.set_cons_succ]
      refine wpAnyH_take (i := 9) (v := .int .i64 rr.2.2) rfl (by kernel_rfl) (by kernel_rfl) (by kernel_rfl) (fun _ _ _ h => nomatch h.1) (.inl ⟨by rfl, fun V hV => by go_simp⟩) J ?_
      try simp only [Act.put, List.getElem_toArray, List.getElem_cons_zero, List.getElem_cons_succ, List.setIfInBounds_toArray, List.set_cons_zero, List.set_cons_succ]
      refine wpAnyH_done (by kernel_rfl) ?_ _
      refine ⟨rfl, ?_⟩
      go_wp2_with fail
      go_ret
      exact ⟨rfl, HB8.out.trans bx, ob, hr⟩
    · try simp only [Act.put, List.getElem_toArray, List.getElem_cons_zero, List.getElem_cons_succ, List.setIfInBounds_toArray, List.set_cons_zero, List.set_cons_succ]
      have qq := kg.cell 0
      change _ = some (Value.slice (some ⟨gR, 0, none⟩) m1 c1) at qq
      go_simp
      clear qq
      refine hK.out _ _ J (fun _ => ?_)
      clear hK K
      try simp only [Act.put, List.getElem_toArray, List.getElem_cons_zero, List.getElem_cons_succ, List.setIfInBounds_toArray, List.set_cons_zero, List.set_cons_succ]
      refine wpAnyH_take (i := 7) (v := .pointer (some ⟨gR, at_ * 3, none⟩)) rfl (by kernel_rfl) (by kernel_rfl) (by kernel_rfl) (fun _ _ _ h => nomatch h.1) (.inl ⟨by rfl, fun V hV => by go_simp⟩) J ?_
      try simp only [Act.put, List.getElem_toArray, List.getElem_cons_zero, List.getElem_cons_succ, List.setIfInBounds_toArray, List.set_cons_zero, List.set_cons_succ]
      refine wpAnyH_ready (rs := [0]) (by kernel_rfl) (by simp) ?_
      refine AllReadyH.cons rfl (fun K hK => ?_) AllReadyH.nil
      try simp only [Act.put, List.getElem_toArray, List.getElem_cons_zero, List.getElem_cons_succ, List.setIfInBounds_toArray, List.set_cons_zero, List.set_cons_succ]
      have qq := kd.cell 0
      change _ = some (Value.func (.func cf) #[] cb) at qq
      go_simp
      clear qq
      refine hK.out _ _ J (fun _ => ?_)
      clear hK K
      try simp only [Act.put, List.getElem_toArray, List.getElem_cons_zero, List.getElem_cons_succ, List.setIfInBounds_toArray, List.set_cons_zero, List.set_cons_succ]
      refine wpAnyH_ready (rs := [8]) (by kernel_rfl) (by simp) ?_
      refine AllReadyH.cons rfl (fun K hK => ?_) AllReadyH.nil
      try simp only [Act.put, List.getElem_toArray, List.getElem_cons_zero, List.getElem_cons_succ, List.setIfInBounds_toArray, List.set_cons_zero, List.set_cons_succ]
      have HZ := Lib.hid (HC2.out WZ B g gR m1 c1 A2 m2 c2 L sz2 obz HO.out rfl own kg hBg hNB)
      have HB8 := Lib.hid (Bx.of (o := o) (B8.mono hBV))
      clear HC2 sz2 obz own kg kd B8 HO
      go_simp
      refine HZ.out.mono ?_
      clear HZ
      rintro e W8 ⟨rfl, bx, ob, hr⟩
      go_wp2_with fail
      refine hK.out _ _ J (fun _ => ?_)
      clear hK K
      try simp only [Act.put, List.getElem_toArray, List.getElem_cons_zero, List.getElem_cons_succ, List.setIfInBounds_toArray, List.set_cons_zero, List.set_cons_succ]
      refine wpAnyH_take (i := 9) (v := .int .i64 rr.2.2) rfl (by kernel_rfl) (by kernel_rfl) (by kernel_rfl) (fun _ _ _ h => nomatch h.1) (.inl ⟨by rfl, fun V hV => by go_simp⟩) J ?_
      try simp only [Act.put, List.getElem_toArray, List.getElem_cons_zero, List.getElem_cons_succ, List.setIfInBounds_toArray, List.set_cons_zero, List.set_cons_succ]
      refine wpAnyH_done (by kernel_rfl) ?_ _
      refine ⟨rfl, ?_⟩
      go_wp2_with fail
      go_ret
      exact ⟨rfl, HB8.out.trans bx, ob, hr⟩
set_option maxRecDepth 100000 in
set_option maxHeartbeats 4000000 in
theorem changedOf_sc (N : Nat) (cf : Nat) (cb : Array Value) (S : World → Prop) (o : Option Nat) (b0 b1 : Bool) (A : Option Addr) (m c : Nat) (R : List Rn) (A2 : Option Addr) (m2 c2 : Nat) (L : List Kw) (id : Int) (r : List Rn × List Kn × Int) (w : World)
    (ec : ∀ args w, (callFunc cf args).run Try.prog w = .ok (.enter cf args) w) (h : Sc w w.heap.size A m c R A2 m2 c2 L) (ho : ∀ k, o = some k → k < w.heap.size) (hob : Ob w o b0)
    (hN : N ≤ w.heap.size) (hS : ∀ V, Below w.heap.size w V → S V) (hSm : ∀ V V', S V → Below V.heap.size V V' → S V') (hc : scE R L = 0 → livesB R id = true → ChgR N cf cb S o b0 b1 R (L.map (·.1)) (lessP (numsR R) id) r) :
    Calls Try.prog 40 #[scV A m c A2 m2 c2, .int .i64 id, .func (.func cf) #[] cb] w fun e w' => ∃ v, e = .returned (.tuple #[v, .int .i64 (chgS R L (ofF R id r)).2.2]) ∧ ScR w' w.heap.size v (chgS R L (ofF R id r)).1 (chgS R L (ofF R id r)).2.1 ∧ Bx w.heap.size o w w' ∧ Ob w' o (if scE R L = 0 then (if livesB R id = true then b1 else b0) else b0) := by
  have k1 := (((Blk.new w (scC A m c A2 m2 c2) 25).alloc (.cells #[.int .i64 id] 3)).alloc (.cells #[.func (.func cf) #[] cb] 71)).alloc (.cells #[.slice none 0 0, .slice none 0 0] 25)
  have k2 := ((Blk.new_ (w.alloc (.cells (scC A m c A2 m2 c2) 25)) #[.int .i64 id] 3 (n := w.heap.size + 1) (by simp)).alloc (.cells #[.func (.func cf) #[] cb] 71)).alloc (.cells #[.slice none 0 0, .slice none 0 0] 25)
  have kd := (Blk.new_ ((w.alloc (.cells (scC A m c A2 m2 c2) 25)).alloc (.cells #[.int .i64 id] 3)) #[.func (.func cf) #[] cb] 71 (n := w.heap.size + 1 + 1) (by simp)).alloc (.cells #[.slice none 0 0, .slice none 0 0] 25)
  have k3 : Blk ((((w.alloc (.cells (scC A m c A2 m2 c2) 25)).alloc (.cells #[.int .i64 id] 3)).alloc (.cells #[.func (.func cf) #[] cb] 71)).alloc (.cells #[.slice none 0 0, .slice none 0 0] 25)) (w.heap.size + 1 + 1 + 1) (scC none 0 0 none 0 0) 25 := Blk.new_ _ _ _ (by simp)
  have B0 := ((((Below.refl w.heap.size w).alloc (Nat.le_refl _) (.cells (scC A m c A2 m2 c2) 25)).alloc (by simp) (.cells #[.int .i64 id] 3)).alloc (by simp; omega) (.cells #[.func (.func cf) #[] cb] 71)).alloc (by simp; omega) (.cells #[.slice none 0 0, .slice none 0 0] 25)
  have hsz0 := B0.size
  have CH := Lib.hid (changed_sc N 73 #[.pointer (some ⟨w.heap.size + 1, 0, none⟩), .pointer (some ⟨w.heap.size + 1 + 1, 0, none⟩)] (fun V => Blk V (w.heap.size + 1) #[.int .i64 id] 3 ∧ Blk V (w.heap.size + 1 + 1) #[.func (.func cf) #[] cb] 71 ∧ S V) o b0 (if livesB R id = true then b1 else b0) A m c R A2 m2 c2 L (ofF R id r) _ (enters_of Try.func73 (by kernel_rfl) rfl) (h.on B0) (fun k e => Nat.lt_of_lt_of_le (ho k e) hsz0) (hob.below B0 ho) (Nat.le_trans hN hsz0) (fun V hV => ⟨k2.below hV k2.lt, kd.below hV kd.lt, hS V (B0.trans (hV.mono hsz0))⟩) (fun hc2 => changedOf1_sc N (w.heap.size + 1) (w.heap.size + 1 + 1) id cf cb S o b0 b1 R (L.map (·.1)) r (okd_of h hc2) ec hSm (fun hl => hc hc2 hl)))
  have HO := Lib.hid ho
  have HOB := Lib.hid hob
  generalize chgS R L (ofF R id r) = r' at CH ⊢
  generalize (if scE R L = 0 then (if livesB R id = true then b1 else b0) else b0) = b' at CH ⊢
  clear h hc hS hSm ho hob hsz0 kd
  unfold scV at *
  go_enter Try.func40, Try.ntmps40
  go_wp2_with (first
    | (refine wpList_load_row rfl 25 (.tmp 3) rfl w.heap.size rfl 25 (scC A m c A2 m2 c2) (0, 0) _ k1.blk Try.underlying25 rfl (sc_inf A m c A2 m2 c2) ?_)
    | (refine CH.out.mono ?_
       clear CH
       rintro e w1 ⟨v, rfl, ⟨A5, m5, c5, A6, m6, c6, L5, rfl, sc5, hn5, fr5⟩, bx, ob⟩
       have k31 := bx.blk k3 k3.lt (fun e => by have := HO.out _ e.symm; omega)
       have B1 := (Bx.of B0).trans (bx.mono B0.size)
       have hs0 := B0.size
       clear k1 k2 k3 bx
       unfold scV)
    | (refine wpList_store_blk rfl 25 (.tmp 6) (.tmp 11) rfl (w.heap.size + 1 + 1 + 1) (scC none 0 0 none 0 0) (scC A5 m5 c5 A6 m6 c6) 25 rfl rfl k31 rfl (sc_inf _ _ _ _ _ _) (sc_one _ _ _ _ _ _) ?_
       intro w5 h5 n5))
  refine bodyPost_ret (results_row_tmp rfl _ _ (w.heap.size + 1 + 1 + 1) 25 (scC A5 m5 c5 A6 m6 c6) (0, 0) _ rfl h5.blk Try.underlying25 rfl (sc_inf _ _ _ _ _ _) _ rfl) rfl ?_
  exact ⟨_, rfl, ⟨A5, m5, c5, A6, m6, c6, L5, rfl, sc5.off' fr5 n5 (by simp), hn5, fr5.down hs0⟩, B1.trans (Bx.of (n5.below _ (by omega) B1.size)), fun g e => n5.blk7 (ob g e) (by have := HO.out g e; omega)⟩
end Go.Proofs.Ytolalbpjaebfdaa
