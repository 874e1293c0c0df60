/-
  steps.Add.
-/
import Derived.Test.YtolalbpjaebfdaaQShift
import Derived.Test.YtolalbpjaebfdaaQScRi
import Derived.Test.YtolalbpjaebfdaaQScKi
import Derived.Test.YtolalbpjaebfdaaQScB
import Derived.StillTail
import Derived.Deep.Quiet
namespace Go.Proofs.Ytolalbpjaebfdaa
open Go.RowKit Go.Shelf
set_option linter.unusedVariables false
set_option linter.unusedSimpArgs false
structure Okd (R : List Rn) (K : List Kn) : Prop where
  r : R.length ≤ 8
  k : K.length ≤ 100000
  q : ∀ x ∈ K, x.q.length ≤ 1000000
  ur : UpR R
  uk : (K.map (·.n)).Pairwise (· < ·)
theorem numsK_names (L : List Kw) : numsK L = (L.map (·.1)).map (·.n) := by
  unfold numsK
  rw [List.map_map]
  rfl
theorem okd_of {w : World} {B : Nat} {A : Option Addr} {m c : Nat} {R : List Rn} {A2 : Option Addr} {m2 c2 : Nat} {L : List Kw} (h : Sc w B A m c R A2 m2 c2 L) (hc : scE R L = 0) : Okd R (L.map (·.1)) := by
  have hs : schB R L = true := by rcases scE_or R L with ⟨_, h2⟩ | ⟨h1, _⟩ <;> first | exact h2 | omega
  obtain ⟨h1, h2⟩ := schB_up hs
  refine ⟨?_, by rw [List.length_map, ← h.len2]; exact h.lim2, fun x hx => ?_, h1, ?_⟩
  · unfold schB at hs
    simp only [Bool.and_eq_true, decide_eq_true_eq] at hs
    exact hs.1
  · obtain ⟨y, hy, rfl⟩ := List.mem_map.1 hx
    exact (h.q y hy).l
  · rw [← numsK_names]; exact h2
theorem Own.sc' {V : World} {B : Nat} {A1 : Option Addr} {m1 c1 : Nat} {R : List Rn} {A2 : Option Addr} {m2 c2 : Nat} {L : List Kw} (h : Own V B A1 m1 c1 R A2 m2 c2 L) (o : Okd R (L.map (·.1))) : Sc V V.heap.size A1 m1 c1 R A2 m2 c2 L :=
  h.sc (by have := h.rr.len; have := o.r; omega) (by have := h.rl.len; have := o.k; rw [List.length_map] at this; omega) (fun x hx => o.q x.1 (List.mem_map.2 ⟨x, hx, rfl⟩))
theorem Own.fro {V : World} {B : Nat} {A1 : Option Addr} {m1 c1 : Nat} {R : List Rn} {A2 : Option Addr} {m2 c2 : Nat} {L : List Kw} (h : Own V B A1 m1 c1 R A2 m2 c2 L) : Fro B A1 A2 L := by
  refine ⟨fun a e => ?_, fun a e => ?_, fun x hx a e => ?_⟩
  · rcases h.rr.form with ⟨e2, _⟩ | ⟨g, e2, h1, _⟩
    · rw [e] at e2; cases e2
    · rw [e] at e2; cases e2; exact h1
  · rcases h.rl.form with ⟨e2, _⟩ | ⟨g, e2, h1, _⟩
    · rw [e] at e2; cases e2
    · rw [e] at e2; cases e2; exact h1
  · rcases (h.q x hx).form with ⟨e2, _⟩ | ⟨g, e2, h1, _⟩
    · rw [e] at e2; cases e2
    · rw [e] at e2; cases e2; exact h1
def addF (R : List Rn) (K : List Kn) (id : Int) : List Rn × List Kn × Int :=
  if (decide (id < 1) || decide (20 < id)) = true then ([], [], 2) else if (numsR R).contains id = true then ([], [], 5) else if R.length = 8 then ([], [], 6) else (insL (lessP (numsR R) id) ⟨id, 0, 0⟩ R, K, 0)
set_option maxRecDepth 100000 in
set_option maxHeartbeats 8000000 in
theorem add1_sc (gi : Nat) (id : Int) (R : List Rn) (K : List Kn) (ok : Okd R K) :
    Chg 0 35 #[.pointer (some ⟨gi, 0, none⟩)] (fun V => Blk V gi #[.int .i64 id] 3) none false false R K (addF R K id) := by
  intro V B g A1 m1 c1 A2 m2 c2 L hS hob _ hK own kg hBg _
  subst hK
  have hgi : gi < V.heap.size := hS.lt
  have hgl : g < V.heap.size := kg.lt
  have sc := own.sc' ok
  have RN := Lib.hid (fun (V' : World) (hV : Below V.heap.size V V') => run_sc id (sc.on hV) ok.ur)
  have hm8 : m1 ≤ 8 := by have := own.rr.len; have := ok.r; omega
  have hml := own.rr.len
  have hkl := lessP_le (numsR R) id
  rw [show (numsR R).length = R.length by simp [numsR]] at hkl
  have HOK := Lib.hid ok
  unfold addF
  obtain ⟨at_, hat⟩ : ∃ a, lessP (numsR R) id = a := ⟨_, rfl⟩
  obtain ⟨ct, hct⟩ : ∃ c, (numsR R).contains id = c := ⟨_, rfl⟩
  rw [hat] at hkl
  rw [hat, hct] at RN ⊢
  have HAT := Lib.hid hat
  have HCT := Lib.hid hct
  have HML := Lib.hid hml
  have hkm : (at_ : Int) ≤ (m1 : Int) := by omega
  have hkl' : at_ ≤ m1 := by omega
  clear hat hct sc ok hob hkl hml
  unfold scV at RN
  obtain ⟨r, hr⟩ : ∃ r : List Rn × List Kn × Int, r = (if (decide (id < 1) || decide (20 < id)) = true then ([], [], 2) else if ct = true then ([], [], 5) else if R.length = 8 then ([], [], 6) else (insL at_ ⟨id, 0, 0⟩ R, L.map (·.1), 0)) := ⟨_, rfl⟩
  rw [← hr]
  have HR := Lib.hid hr
  clear hr
  have Jd : Below V.heap.size V V.drew := (Below.refl _ _).drew
  go_enter Try.func35, Try.ntmps35
  go_wp2_with fail
  refine region_cutP ?_
  refine wp_region_held_drew (S := (fun V' => Below V.heap.size V V')) (by kernel_rfl) Jd (fun _ => ?_)
  refine wpAnyH_take (i := 0) (v := .pointer (some ⟨g, 0, none⟩)) rfl (by kernel_rfl) (by kernel_rfl) (by kernel_rfl) (fun _ _ _ h => nomatch h.1) (.inl ⟨by rfl, fun V_ hV => by go_simp⟩) Jd ?_
  try simp only [Act.put, List.getElem_toArray, List.getElem_cons_zero, List.getElem_cons_succ, List.setIfInBounds_toArray, List.set_cons_zero, List.set_cons_succ]
  refine wpAnyH_take (i := 3) (v := .int .i64 id) rfl (by kernel_rfl) (by kernel_rfl) (by kernel_rfl) (fun _ _ _ h => nomatch h.1) (.inl ⟨by rfl, fun V_ hV => by have c2 : V_.cell? ⟨gi, 0, none⟩ = some (.int .i64 id) := (hS.below hV hgi).cell 0; go_simp⟩) Jd ?_
  try simp only [Act.put, List.getElem_toArray, List.getElem_cons_zero, List.getElem_cons_succ, List.setIfInBounds_toArray, List.set_cons_zero, List.set_cons_succ]
  refine wpAnyH_take (i := 1) (v := .pointer (some ⟨g, 0, none⟩)) rfl (by kernel_rfl) (by kernel_rfl) (by kernel_rfl) (fun _ _ _ h => nomatch h.1) (.inl ⟨by rfl, fun V_ hV => by go_simp⟩) Jd ?_
  try simp only [Act.put, List.getElem_toArray, List.getElem_cons_zero, List.getElem_cons_succ, List.setIfInBounds_toArray, List.set_cons_zero, List.set_cons_succ]
  refine wpAnyH_take (i := 2) (v := .agg (scC A1 m1 c1 A2 m2 c2)) rfl (by kernel_rfl) (by kernel_rfl) (by kernel_rfl) (fun _ _ _ h => nomatch h.1) (yieldsIf_blk (by rfl) 25 (.tmp 8) rfl g rfl (scC A1 m1 c1 A2 m2 c2) 25 _ (fun _ h => kg.below h hgl) Try.underlying25 rfl (sc_inf _ _ _ _ _ _)) Jd ?_
  try simp only [Act.put, List.getElem_toArray, List.getElem_cons_zero, List.getElem_cons_succ, List.setIfInBounds_toArray, List.set_cons_zero, List.set_cons_succ]
  refine wpAnyH_ready (rs := [4]) (by kernel_rfl) (by simp) ?_
  refine AllReadyH.cons rfl (fun K hK => ?_) AllReadyH.nil
  try simp only [Act.put, List.getElem_toArray, List.getElem_cons_zero, List.getElem_cons_succ, List.setIfInBounds_toArray, List.set_cons_zero, List.set_cons_succ]
  go_simp
  refine (RN.out _ Jd).mono ?_
  rintro e W ⟨rfl, bb⟩
  go_wp2_with fail
  have Jd := Jd.trans (bb.mono Jd.size)
  clear bb
  refine hK.out _ _ Jd (fun _ => ?_)
  clear hK K
  try simp only [Act.put, List.getElem_toArray, List.getElem_cons_zero, List.getElem_cons_succ, List.setIfInBounds_toArray, List.set_cons_zero, List.set_cons_succ]
  refine wpAnyH_take (i := 5) (v := .tuple #[.int .i64 at_, .bool ct]) rfl (by kernel_rfl) (by kernel_rfl) (by kernel_rfl) (fun _ _ _ h => nomatch h.1) (.inl ⟨by rfl, fun V_ hV => by go_simp⟩) Jd ?_
  try simp only [Act.put, List.getElem_toArray, List.getElem_cons_zero, List.getElem_cons_succ, List.setIfInBounds_toArray, List.set_cons_zero, List.set_cons_succ]
  refine wpAnyH_take (i := 6) (v := .int .i64 at_) rfl (by kernel_rfl) (by kernel_rfl) (by kernel_rfl) (fun _ _ _ h => nomatch h.1) (.inl ⟨by rfl, fun V_ hV => by go_simp⟩) Jd ?_
  try simp only [Act.put, List.getElem_toArray, List.getElem_cons_zero, List.getElem_cons_succ, List.setIfInBounds_toArray, List.set_cons_zero, List.set_cons_succ]
  refine wpAnyH_take (i := 7) (v := .bool ct) rfl (by kernel_rfl) (by kernel_rfl) (by kernel_rfl) (fun _ _ _ h => nomatch h.1) (.inl ⟨by rfl, fun V_ hV => by go_simp⟩) Jd ?_
  try simp only [Act.put, List.getElem_toArray, List.getElem_cons_zero, List.getElem_cons_succ, List.setIfInBounds_toArray, List.set_cons_zero, List.set_cons_succ]
  refine wpAnyH_take (i := 8) (v := .int .i64 at_) rfl (by kernel_rfl) (by kernel_rfl) (by kernel_rfl) (fun _ _ _ h => nomatch h.1) (.inl ⟨by rfl, fun V_ hV => by go_simp⟩) Jd ?_
  try simp only [Act.put, List.getElem_toArray, List.getElem_cons_zero, List.getElem_cons_succ, List.setIfInBounds_toArray, List.set_cons_zero, List.set_cons_succ]
  refine wpAnyH_take (i := 9) (v := .bool ct) rfl (by kernel_rfl) (by kernel_rfl) (by kernel_rfl) (fun _ _ _ h => nomatch h.1) (.inl ⟨by rfl, fun V_ hV => by go_simp⟩) Jd ?_
  try simp only [Act.put, List.getElem_toArray, List.getElem_cons_zero, List.getElem_cons_succ, List.setIfInBounds_toArray, List.set_cons_zero, List.set_cons_succ]
  refine wpAnyH_done (by kernel_rfl) ?_ _
  refine ⟨rfl, ?_⟩
  have J7 := Jd
  clear Jd
  have kg7 := kg.below J7 hgl
  have own7 := own.below J7 (Nat.le_refl _)
  have hS7 := hS.below J7 hgi
  have hBV : B ≤ V.heap.size := Nat.le_trans hBg (Nat.le_of_lt hgl)
  have qi : W.cell? ⟨gi, 0, none⟩ = some (.int .i64 id) := hS7.cell 0
  have q0 : W.cell? ⟨g, 0, none⟩ = some (.slice A1 m1 c1) := kg7.cell 0
  have fin : ∀ er : Int, er ≠ 0 → r.2.2 = er → r.2.2 = er ∧ Bx B none V W ∧ Ob W none false ∧ (r.2.2 = 0 → ChO W B g r) := fun er h0 he => ⟨he, Bx.of (J7.mono hBV), (fun g e => by cases e), fun h => absurd (he.symm.trans h) h0⟩
  cases h1 : decide (id < 1)
  · cases h2 : decide (20 < id)
    · cases ct
      · by_cases h8 : R.length = 8
        · have hd : ((m1 : Int) == 8) = true := by have := HML.out; simp; omega
          have F := fin 6 (by decide) (by rw [HR.out, h1, h2]; simp [h8])
          have HF := Lib.hid F
          clear F fin h8
          go_wp2_with fail
          go_ret
          exact ⟨by rw [HF.out.1]; rfl, HF.out.2⟩
        · have hd : ((m1 : Int) == 8) = false := by have := HML.out; simp; omega
          have hr : r = (insL at_ ⟨id, 0, 0⟩ R, L.map (·.1), 0) := by rw [HR.out, h1, h2, if_neg (by simp), if_neg (by simp), if_neg h8]
          have HR2 := Lib.hid hr
          have H8 := Lib.hid h8
          clear fin h8 hr HR
          go_wp2_with fail
          try simp only [Act.put]
          refine region_cutP ?_
          have J := hS7.drew
          have kg := kg7.drew
          have own : Own W.drew B A1 m1 c1 R A2 m2 c2 L := own7.below (Below.refl _ _).drew (Nat.le_refl _)
          have bx : Below B V W.drew := (J7.mono hBV).drew
          have hsz : B ≤ W.drew.heap.size := Nat.le_trans hBV J7.size
          have own0 := own
          refine wp_region_held_drew (S := fun V' => Blk V' gi #[.int .i64 id] 3) (by kernel_rfl) J (fun _ => ?_)
          generalize W.drew = WZ at J kg own bx hsz own0 ⊢
          obtain ⟨gb, hWz⟩ : ∃ gb, gb = WZ.heap.size := ⟨_, rfl⟩
          have hm9 : m1 + 1 ≤ 100000 := by omega
          clear q0 qi J7 kg7 own7 hS7
          refine wpAnyH_take (i := 0) (v := .pointer (some ⟨g, 0, none⟩)) rfl (by kernel_rfl) (by kernel_rfl) (by kernel_rfl) (fun _ _ _ h => nomatch h.1) (.inl ⟨by rfl, fun V hV => by go_simp⟩) J ?_
          try simp only [Act.put, List.getElem_toArray, List.getElem_cons_zero, List.getElem_cons_succ, List.setIfInBounds_toArray, List.set_cons_zero, List.set_cons_succ]
          refine wpAnyH_take (i := 1) (v := .pointer (some ⟨g, 0, none⟩)) rfl (by kernel_rfl) (by kernel_rfl) (by kernel_rfl) (fun _ _ _ h => nomatch h.1) (.inl ⟨by rfl, fun V hV => by go_simp⟩) J ?_
          try simp only [Act.put, List.getElem_toArray, List.getElem_cons_zero, List.getElem_cons_succ, List.setIfInBounds_toArray, List.set_cons_zero, List.set_cons_succ]
          refine wpAnyH_take (i := 5) (v := .int .i64 at_) rfl (by kernel_rfl) (by kernel_rfl) (by kernel_rfl) (fun _ _ _ h => nomatch h.1) (.inl ⟨by rfl, fun V hV => by go_simp⟩) J ?_
          try simp only [Act.put, List.getElem_toArray, List.getElem_cons_zero, List.getElem_cons_succ, List.setIfInBounds_toArray, List.set_cons_zero, List.set_cons_succ]
          refine wpAnyH_take (i := 6) (v := .int .i64 id) rfl (by kernel_rfl) (by kernel_rfl) (by kernel_rfl) (fun _ _ _ h => nomatch h.1) (.inl ⟨by rfl, fun V hV => by have c2 : V.cell? ⟨gi, 0, none⟩ = some (.int .i64 id) := hV.cell 0; go_simp⟩) J ?_
          try simp only [Act.put, List.getElem_toArray, List.getElem_cons_zero, List.getElem_cons_succ, List.setIfInBounds_toArray, List.set_cons_zero, List.set_cons_succ]
          refine wpAnyH_take (i := 2) (v := .pointer (some ⟨g, 0, none⟩)) rfl (by kernel_rfl) (by kernel_rfl) (by kernel_rfl) (fun _ _ _ h => nomatch h.1) (.inl ⟨by rfl, fun V hV => by go_simp⟩) J ?_
          try simp only [Act.put, List.getElem_toArray, List.getElem_cons_zero, List.getElem_cons_succ, List.setIfInBounds_toArray, List.set_cons_zero, List.set_cons_succ]
          refine wpAnyH_take (i := 7) (v := .agg #[.int .i64 id, .int .i64 0, .int .i64 0]) rfl (by kernel_rfl) (by kernel_rfl) (by kernel_rfl) (fun _ _ _ h => nomatch h.1) (.inl ⟨by rfl, fun V hV => by go_simp⟩) J ?_
          try simp only [Act.put, List.getElem_toArray, List.getElem_cons_zero, List.getElem_cons_succ, List.setIfInBounds_toArray, List.set_cons_zero, List.set_cons_succ]
          refine wpAnyH_take (i := 3) (v := .pointer (some ⟨g, 0, none⟩)) rfl (by kernel_rfl) (by kernel_rfl) (by kernel_rfl) (fun _ _ _ h => nomatch h.1) (.inl ⟨by rfl, fun V hV => by go_simp⟩) J ?_
          try simp only [Act.put, List.getElem_toArray, List.getElem_cons_zero, List.getElem_cons_succ, List.setIfInBounds_toArray, List.set_cons_zero, List.set_cons_succ]
          refine wpAnyH_ready (rs := [4, 8]) (by kernel_rfl) (by simp) ?_
          refine AllReadyH.cons rfl (fun K hK => ?_) (AllReadyH.cons rfl (fun K hK => ?_) AllReadyH.nil)
          · try simp only [Act.put, List.getElem_toArray, List.getElem_cons_zero, List.getElem_cons_succ, List.setIfInBounds_toArray, List.set_cons_zero, List.set_cons_succ]
            have qq := kg.cell 0
            change _ = some (Value.slice A1 m1 c1) at qq
            go_simp
            clear qq
            refine hK.out _ _ J (fun _ => ?_)
            clear hK K
            try simp only [Act.put, List.getElem_toArray, List.getElem_cons_zero, List.getElem_cons_succ, List.setIfInBounds_toArray, List.set_cons_zero, List.set_cons_succ]
            refine wpAnyH_ready (rs := [8]) (by kernel_rfl) (by simp) ?_
            refine AllReadyH.cons rfl (fun K hK => ?_) AllReadyH.nil
            try simp only [Act.put, List.getElem_toArray, List.getElem_cons_zero, List.getElem_cons_succ, List.setIfInBounds_toArray, List.set_cons_zero, List.set_cons_succ]
            go_simp
            have kb := Blk.new_ _ (rnC ⟨id, 0, 0⟩) 52 hWz.symm
            have ba : Below WZ.heap.size WZ (WZ.alloc (.cells (rnC ⟨id, 0, 0⟩) 52)) := (Below.refl _ _).alloc (Nat.le_refl _) _
            have kg := kg.below ba kg.lt
            have own := own.below ba (Nat.le_refl _)
            have J := J.below ba J.lt
            have bx := bx.trans (ba.mono hsz)
            have hgne : ∀ g', (Value.slice A1 m1 c1).ownBlock = some g' → gb ≠ g' := fun g' e => by have := (own0.rr.lt g' e).2; omega
            have hsz := Nat.le_trans hsz ba.size
            show K _ (WZ.alloc (.cells (rnC ⟨id, 0, 0⟩) 52))
            generalize WZ.alloc (.cells (rnC ⟨id, 0, 0⟩) 52) = W8 at kb kg own J bx hsz ⊢
            rw [← hWz]
            clear ba hWz
            refine hK.out _ _ J (fun _ => ?_)
            clear hK K
            try simp only [Act.put, List.getElem_toArray, List.getElem_cons_zero, List.getElem_cons_succ, List.setIfInBounds_toArray, List.set_cons_zero, List.set_cons_succ]
            refine wpAnyH_ready (rs := [9]) (by kernel_rfl) (by simp) ?_
            refine AllReadyH.cons rfl (fun K hK => ?_) AllReadyH.nil
            try simp only [Act.put, List.getElem_toArray, List.getElem_cons_zero, List.getElem_cons_succ, List.setIfInBounds_toArray, List.set_cons_zero, List.set_cons_succ]
            go_simp
            have IR := insert_R B A1 m1 c1 at_ R ⟨id, 0, 0⟩ gb W8 own.rr kb.blk hgne hm9 hsz hkl'
            refine IR.mono ?_
            clear IR
            rintro e W9 ⟨A9, c9, rfl, ro, hgr, bb⟩
            go_wp2_with fail
            have hrow : ∀ g', (Value.slice A1 m1 c1).ownBlock = some g' → ∃ cs t, Blk W8 g' cs t ∧ t = 52 := fun g' e => by obtain ⟨cur, k⟩ := roR_blk own.rr e; exact ⟨cur, _, k, rfl⟩
            have rl := own_kind own.rl hgr (fun g' e => by obtain ⟨cs, t, k, rfl⟩ := hrow g' e; exact ⟨cs, _, k, by decide⟩)
            have qz : ∀ x ∈ L, Zo W9 B x.2.1 x.1.q.length x.2.2 x.1.q := fun x hx => own_kind (own.q x hx) hgr (fun g' e => by obtain ⟨cs, t, k, rfl⟩ := hrow g' e; exact ⟨cs, _, k, by decide⟩)
            have own9 : Own W9 B A9 (m1 + 1) c9 (insL at_ ⟨id, 0, 0⟩ R) A2 m2 c2 L := ⟨ro, rl, qz, own.qd⟩
            have kg : Blk W9 g (scC A1 m1 c1 A2 m2 c2) 25 := ⟨(hgr.block g kg.lt (fun e => by
              obtain ⟨cs, t, k, rfl⟩ := hrow g e.symm
              have h8 := k.blk
              rw [kg.blk] at h8
              have h9 : (25 : TypeId) = 52 := by injection h8 with h8; injection h8
              exact absurd h9 (by decide))).trans kg.blk⟩
            have J : Blk W9 gi #[.int .i64 id] 3 := ⟨(hgr.block gi J.lt (fun e => by
              obtain ⟨cs, t, k, rfl⟩ := hrow gi e.symm
              have h8 := k.blk
              rw [J.blk] at h8
              have h9 : (3 : TypeId) = 52 := by injection h8 with h8; injection h8
              exact absurd h9 (by decide))).trans J.blk⟩
            have bx := bx.trans bb
            clear hgr bb hrow rl qz ro own
            refine hK.out _ _ J (fun _ => ?_)
            clear hK K
            try simp only [Act.put, List.getElem_toArray, List.getElem_cons_zero, List.getElem_cons_succ, List.setIfInBounds_toArray, List.set_cons_zero, List.set_cons_succ]
            refine wpAnyH_take (i := 10) (v := .pointer (some ⟨g, 0, none⟩)) rfl (by kernel_rfl) (by kernel_rfl) (by kernel_rfl) (fun _ _ _ h => nomatch h.1) (.inl ⟨by rfl, fun V hV => by go_simp⟩) J ?_
            try simp only [Act.put, List.getElem_toArray, List.getElem_cons_zero, List.getElem_cons_succ, List.setIfInBounds_toArray, List.set_cons_zero, List.set_cons_succ]
            refine wpAnyH_take (i := 11) (v := .pointer (some ⟨g, 0, none⟩)) rfl (by kernel_rfl) (by kernel_rfl) (by kernel_rfl) (fun _ _ _ h => nomatch h.1) (.inl ⟨by rfl, fun V hV => by go_simp⟩) J ?_
            try simp only [Act.put, List.getElem_toArray, List.getElem_cons_zero, List.getElem_cons_succ, List.setIfInBounds_toArray, List.set_cons_zero, List.set_cons_succ]
            refine wpAnyH_ready (rs := [12]) (by kernel_rfl) (by simp) ?_
            refine AllReadyH.cons rfl (fun K hK => ?_) AllReadyH.nil
            try simp only [Act.put, List.getElem_toArray, List.getElem_cons_zero, List.getElem_cons_succ, List.setIfInBounds_toArray, List.set_cons_zero, List.set_cons_succ]
            have q0 : W9.cell? ⟨g, 0, none⟩ = some (.slice A1 m1 c1) := kg.cell 0
            have f0 := kg.frozen 0
            go_simp
            clear q0 f0
            have n12 : But g W9 (W9.setCell ⟨g, 0, none⟩ (.slice A9 (m1 + 1) c9)) := (But.refl g W9).setCell (p := ⟨g, 0, none⟩) (.inl rfl) _
            have own12 := own9.kind n12 kg (by decide) (by decide) (by decide)
            have kg12 := kg.set_ 0 (.slice A9 (m1 + 1) c9)
            have hgig : gi ≠ g := fun e => by
              have h8 := J.blk
              rw [e, kg.blk] at h8
              have h9 : (25 : TypeId) = 3 := by injection h8 with h8; injection h8
              exact absurd h9 (by decide)
            have J := n12.blk7 J hgig
            have bx := bx.trans (n12.below B hBg (Nat.le_trans hBV bx.size))
            generalize W9.setCell ⟨g, 0, none⟩ (.slice A9 (m1 + 1) c9) = W12 at own12 kg12 J bx ⊢
            refine hK.out _ _ J (fun _ => ?_)
            clear hK K
            try simp only [Act.put, List.getElem_toArray, List.getElem_cons_zero, List.getElem_cons_succ, List.setIfInBounds_toArray, List.set_cons_zero, List.set_cons_succ]
            refine wpAnyH_done (by kernel_rfl) ?_ _
            refine ⟨rfl, ?_⟩
            clear J
            go_wp2_with fail
            go_ret
            refine ⟨by rw [HR2.out]; rfl, Bx.of bx, (fun g e => by cases e), fun _ => ?_⟩
            rw [HR2.out]
            refine ⟨A9, m1 + 1, c9, A2, m2, c2, L, kg12, own12.sc (by omega) (by have := own12.rl.len; have := HOK.out.k; rw [List.length_map] at this; omega) (fun x hx => HOK.out.q x.1 (List.mem_map.2 ⟨x, hx, rfl⟩)), rfl, own12.fro⟩
          · try simp only [Act.put, List.getElem_toArray, List.getElem_cons_zero, List.getElem_cons_succ, List.setIfInBounds_toArray, List.set_cons_zero, List.set_cons_succ]
            go_simp
            have kb := Blk.new_ _ (rnC ⟨id, 0, 0⟩) 52 hWz.symm
            have ba : Below WZ.heap.size WZ (WZ.alloc (.cells (rnC ⟨id, 0, 0⟩) 52)) := (Below.refl _ _).alloc (Nat.le_refl _) _
            have kg := kg.below ba kg.lt
            have own := own.below ba (Nat.le_refl _)
            have J := J.below ba J.lt
            have bx := bx.trans (ba.mono hsz)
            have hgne : ∀ g', (Value.slice A1 m1 c1).ownBlock = some g' → gb ≠ g' := fun g' e => by have := (own0.rr.lt g' e).2; omega
            have hsz := Nat.le_trans hsz ba.size
            show K _ (WZ.alloc (.cells (rnC ⟨id, 0, 0⟩) 52))
            generalize WZ.alloc (.cells (rnC ⟨id, 0, 0⟩) 52) = W8 at kb kg own J bx hsz ⊢
            rw [← hWz]
            clear ba hWz
            refine hK.out _ _ J (fun _ => ?_)
            clear hK K
            try simp only [Act.put, List.getElem_toArray, List.getElem_cons_zero, List.getElem_cons_succ, List.setIfInBounds_toArray, List.set_cons_zero, List.set_cons_succ]
            refine wpAnyH_ready (rs := [4]) (by kernel_rfl) (by simp) ?_
            refine AllReadyH.cons rfl (fun K hK => ?_) AllReadyH.nil
            try simp only [Act.put, List.getElem_toArray, List.getElem_cons_zero, List.getElem_cons_succ, List.setIfInBounds_toArray, List.set_cons_zero, List.set_cons_succ]
            have qq := kg.cell 0
            change _ = some (Value.slice A1 m1 c1) at qq
            go_simp
            clear qq
            refine hK.out _ _ J (fun _ => ?_)
            clear hK K
            try simp only [Act.put, List.getElem_toArray, List.getElem_cons_zero, List.getElem_cons_succ, List.setIfInBounds_toArray, List.set_cons_zero, List.set_cons_succ]
            refine wpAnyH_ready (rs := [9]) (by kernel_rfl) (by simp) ?_
            refine AllReadyH.cons rfl (fun K hK => ?_) AllReadyH.nil
            try simp only [Act.put, List.getElem_toArray, List.getElem_cons_zero, List.getElem_cons_succ, List.setIfInBounds_toArray, List.set_cons_zero, List.set_cons_succ]
            go_simp
            have IR := insert_R B A1 m1 c1 at_ R ⟨id, 0, 0⟩ gb W8 own.rr kb.blk hgne hm9 hsz hkl'
            refine IR.mono ?_
            clear IR
            rintro e W9 ⟨A9, c9, rfl, ro, hgr, bb⟩
            go_wp2_with fail
            have hrow : ∀ g', (Value.slice A1 m1 c1).ownBlock = some g' → ∃ cs t, Blk W8 g' cs t ∧ t = 52 := fun g' e => by obtain ⟨cur, k⟩ := roR_blk own.rr e; exact ⟨cur, _, k, rfl⟩
            have rl := own_kind own.rl hgr (fun g' e => by obtain ⟨cs, t, k, rfl⟩ := hrow g' e; exact ⟨cs, _, k, by decide⟩)
            have qz : ∀ x ∈ L, Zo W9 B x.2.1 x.1.q.length x.2.2 x.1.q := fun x hx => own_kind (own.q x hx) hgr (fun g' e => by obtain ⟨cs, t, k, rfl⟩ := hrow g' e; exact ⟨cs, _, k, by decide⟩)
            have own9 : Own W9 B A9 (m1 + 1) c9 (insL at_ ⟨id, 0, 0⟩ R) A2 m2 c2 L := ⟨ro, rl, qz, own.qd⟩
            have kg : Blk W9 g (scC A1 m1 c1 A2 m2 c2) 25 := ⟨(hgr.block g kg.lt (fun e => by
              obtain ⟨cs, t, k, rfl⟩ := hrow g e.symm
              have h8 := k.blk
              rw [kg.blk] at h8
              have h9 : (25 : TypeId) = 52 := by injection h8 with h8; injection h8
              exact absurd h9 (by decide))).trans kg.blk⟩
            have J : Blk W9 gi #[.int .i64 id] 3 := ⟨(hgr.block gi J.lt (fun e => by
              obtain ⟨cs, t, k, rfl⟩ := hrow gi e.symm
              have h8 := k.blk
              rw [J.blk] at h8
              have h9 : (3 : TypeId) = 52 := by injection h8 with h8; injection h8
              exact absurd h9 (by decide))).trans J.blk⟩
            have bx := bx.trans bb
            clear hgr bb hrow rl qz ro own
            refine hK.out _ _ J (fun _ => ?_)
            clear hK K
            try simp only [Act.put, List.getElem_toArray, List.getElem_cons_zero, List.getElem_cons_succ, List.setIfInBounds_toArray, List.set_cons_zero, List.set_cons_succ]
            refine wpAnyH_take (i := 10) (v := .pointer (some ⟨g, 0, none⟩)) rfl (by kernel_rfl) (by kernel_rfl) (by kernel_rfl) (fun _ _ _ h => nomatch h.1) (.inl ⟨by rfl, fun V hV => by go_simp⟩) J ?_
            try simp only [Act.put, List.getElem_toArray, List.getElem_cons_zero, List.getElem_cons_succ, List.setIfInBounds_toArray, List.set_cons_zero, List.set_cons_succ]
            refine wpAnyH_take (i := 11) (v := .pointer (some ⟨g, 0, none⟩)) rfl (by kernel_rfl) (by kernel_rfl) (by kernel_rfl) (fun _ _ _ h => nomatch h.1) (.inl ⟨by rfl, fun V hV => by go_simp⟩) J ?_
            try simp only [Act.put, List.getElem_toArray, List.getElem_cons_zero, List.getElem_cons_succ, List.setIfInBounds_toArray, List.set_cons_zero, List.set_cons_succ]
            refine wpAnyH_ready (rs := [12]) (by kernel_rfl) (by simp) ?_
            refine AllReadyH.cons rfl (fun K hK => ?_) AllReadyH.nil
            try simp only [Act.put, List.getElem_toArray, List.getElem_cons_zero, List.getElem_cons_succ, List.setIfInBounds_toArray, List.set_cons_zero, List.set_cons_succ]
            have q0 : W9.cell? ⟨g, 0, none⟩ = some (.slice A1 m1 c1) := kg.cell 0
            have f0 := kg.frozen 0
            go_simp
            clear q0 f0
            have n12 : But g W9 (W9.setCell ⟨g, 0, none⟩ (.slice A9 (m1 + 1) c9)) := (But.refl g W9).setCell (p := ⟨g, 0, none⟩) (.inl rfl) _
            have own12 := own9.kind n12 kg (by decide) (by decide) (by decide)
            have kg12 := kg.set_ 0 (.slice A9 (m1 + 1) c9)
            have hgig : gi ≠ g := fun e => by
              have h8 := J.blk
              rw [e, kg.blk] at h8
              have h9 : (25 : TypeId) = 3 := by injection h8 with h8; injection h8
              exact absurd h9 (by decide)
            have J := n12.blk7 J hgig
            have bx := bx.trans (n12.below B hBg (Nat.le_trans hBV bx.size))
            generalize W9.setCell ⟨g, 0, none⟩ (.slice A9 (m1 + 1) c9) = W12 at own12 kg12 J bx ⊢
            refine hK.out _ _ J (fun _ => ?_)
            clear hK K
            try simp only [Act.put, List.getElem_toArray, List.getElem_cons_zero, List.getElem_cons_succ, List.setIfInBounds_toArray, List.set_cons_zero, List.set_cons_succ]
            refine wpAnyH_done (by kernel_rfl) ?_ _
            refine ⟨rfl, ?_⟩
            clear J
            go_wp2_with fail
            go_ret
            refine ⟨by rw [HR2.out]; rfl, Bx.of bx, (fun g e => by cases e), fun _ => ?_⟩
            rw [HR2.out]
            refine ⟨A9, m1 + 1, c9, A2, m2, c2, L, kg12, own12.sc (by omega) (by have := own12.rl.len; have := HOK.out.k; rw [List.length_map] at this; omega) (fun x hx => HOK.out.q x.1 (List.mem_map.2 ⟨x, hx, rfl⟩)), rfl, own12.fro⟩
      · have F := fin 5 (by decide) (by rw [HR.out, h1, h2]; simp)
        have HF := Lib.hid F
        clear F fin
        go_wp2_with fail
        go_ret
        exact ⟨by rw [HF.out.1]; rfl, HF.out.2⟩
    · have F := fin 2 (by decide) (by rw [HR.out, h1, h2]; simp)
      have HF := Lib.hid F
      clear F fin
      go_wp2_with fail
      go_ret
      exact ⟨by rw [HF.out.1]; rfl, HF.out.2⟩
  · have F := fin 2 (by decide) (by rw [HR.out, h1]; simp)
    have HF := Lib.hid F
    clear F fin
    go_wp2_with fail
    go_ret
    exact ⟨by rw [HF.out.1]; rfl, HF.out.2⟩
set_option maxRecDepth 100000 in
set_option maxHeartbeats 4000000 in
theorem add_sc (A : Option Addr) (m c : Nat) (R : List Rn) (A2 : Option Addr) (m2 c2 : Nat) (L : List Kw) (id : Int) (w : World) (h : Sc w w.heap.size A m c R A2 m2 c2 L) :
    Calls Try.prog 11 #[scV A m c A2 m2 c2, .int .i64 id] w fun e w' => ∃ v, e = .returned (.tuple #[v, .int .i64 (chgS R L (addF R (L.map (·.1)) id)).2.2]) ∧ ScR w' w.heap.size v (chgS R L (addF R (L.map (·.1)) id)).1 (chgS R L (addF R (L.map (·.1)) id)).2.1 ∧ Below w.heap.size w w' := by
  have k1 := ((Blk.new w (scC A m c A2 m2 c2) 25).alloc (.cells #[.int .i64 id] 3)).alloc (.cells #[.slice none 0 0, .slice none 0 0] 25)
  have k2 := (Blk.new_ (w.alloc (.cells (scC A m c A2 m2 c2) 25)) #[.int .i64 id] 3 (n := w.heap.size + 1) (by simp)).alloc (.cells #[.slice none 0 0, .slice none 0 0] 25)
  have k3 : Blk (((w.alloc (.cells (scC A m c A2 m2 c2) 25)).alloc (.cells #[.int .i64 id] 3)).alloc (.cells #[.slice none 0 0, .slice none 0 0] 25)) (w.heap.size + 1 + 1) (scC none 0 0 none 0 0) 25 := Blk.new_ _ _ _ (by simp)
  have B0 := (((Below.refl w.heap.size w).alloc (Nat.le_refl _) (.cells (scC A m c A2 m2 c2) 25)).alloc (by simp) (.cells #[.int .i64 id] 3)).alloc (by simp; omega) (.cells #[.slice none 0 0, .slice none 0 0] 25)
  have CH := Lib.hid (changed_sc 0 35 #[.pointer (some ⟨w.heap.size + 1, 0, none⟩)] (fun V => Blk V (w.heap.size + 1) #[.int .i64 id] 3) none false false A m c R A2 m2 c2 L (addF R (L.map (·.1)) id) _ (enters_of Try.func35 (by kernel_rfl) rfl) (h.on B0) (fun k e => by cases e) (fun g e => by cases e) (Nat.zero_le _) (fun V hV => k2.below hV k2.lt) (fun hc => add1_sc (w.heap.size + 1) id R (L.map (·.1)) (okd_of h hc)))
  generalize chgS R L (addF R (L.map (·.1)) id) = r at CH ⊢
  clear h
  unfold scV at *
  go_enter Try.func11, Try.ntmps11
  go_wp2_with (first
    | (refine wpList_load_row rfl 25 (.tmp 2) rfl w.heap.size rfl 25 (scC A m c A2 m2 c2) (0, 0) _ k1.blk Try.underlying25 rfl (sc_inf A m c A2 m2 c2) ?_)
    | (refine CH.out.mono ?_
       clear CH
       rintro e w1 ⟨v, rfl, ⟨A5, m5, c5, A6, m6, c6, L5, rfl, sc5, hn5, fr5⟩, bx, _⟩
       have bb := bx.below
       have k31 := k3.below bb k3.lt
       have B1 := B0.trans (bb.mono B0.size)
       clear k1 k2 k3 bx
       unfold scV)
    | (refine wpList_store_blk rfl 25 (.tmp 4) (.tmp 9) rfl (w.heap.size + 1 + 1) (scC none 0 0 none 0 0) (scC A5 m5 c5 A6 m6 c6) 25 rfl rfl k31 rfl (sc_inf _ _ _ _ _ _) (sc_one _ _ _ _ _ _) ?_
       intro w5 h5 n5))
  refine bodyPost_ret (results_row_tmp rfl _ _ (w.heap.size + 1 + 1) 25 (scC A5 m5 c5 A6 m6 c6) (0, 0) _ rfl h5.blk Try.underlying25 rfl (sc_inf _ _ _ _ _ _) _ rfl) rfl ?_
  exact ⟨_, rfl, ⟨A5, m5, c5, A6, m6, c6, L5, rfl, sc5.off' fr5 n5 (by simp), hn5, fr5.down B0.size⟩, B1.trans (n5.below _ (by omega) B1.size)⟩
end Go.Proofs.Ytolalbpjaebfdaa
