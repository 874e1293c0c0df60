/-
  PlAd, PlM, PlAdd: in one file.
-/
import Derived.Test.YtelfdpcenplhjaaGreatDoorQDatN
import Derived.Test.YtelfdpcenplhjaaGreatDoorQJN
namespace Go.Proofs.YtelfdpcenplhjaaGreatDoor
open Go.RowKit Go.Shelf
set_option linter.unusedVariables false
set_option linter.unusedSimpArgs false
structure AdA (gq gp gg : Nat) (A1 : Option Addr) (m c1 : Nat) (pa : Int) (G : Option Addr) (gl gc : Nat) (V : World) : Prop where
  kq : Blk V gq #[.slice A1 m c1] 24
  kp : Blk V gp #[.int .i64 pa] 3
  kg : Blk V gg #[.slice G gl gc] 25
theorem AdA.below {gq gp gg m c1 gl gc : Nat} {A1 G : Option Addr} {pa : Int} {V V' : World} (h : AdA gq gp gg A1 m c1 pa G gl gc V) (b : Below V.heap.size V V') : AdA gq gp gg A1 m c1 pa G gl gc V' := ⟨h.kq.below b h.kq.lt, h.kp.below b h.kp.lt, h.kg.below b h.kg.lt⟩
theorem AdA.but {gq gp gg m c1 gl gc gn : Nat} {A1 G : Option Addr} {pa : Int} {V V' : World} (h : AdA gq gp gg A1 m c1 pa G gl gc V) (n : But gn V V') (h1 : gq ≠ gn) (h2 : gp ≠ gn) (h3 : gg ≠ gn) : AdA gq gp gg A1 m c1 pa G gl gc V' := ⟨n.blk7 h.kq h1, n.blk7 h.kp h2, n.blk7 h.kg h3⟩
structure AdB (w0 : World) (gn gr : Nat) (x : Nl) (V : World) : Prop where
  b : But gn w0 V
  kn : Blk V gn (ndC x) 46
  kr : Blk V gr #[.slice none 0 0] 24
theorem AdB.step {w V V' : World} {gn gr : Nat} {x : Nl} (h : AdB w gn gr x V) (bb : Below V.heap.size V V') : AdB w gn gr x V' := ⟨h.b.trans (But.of_below bb gn), h.kn.below bb h.kn.lt, h.kr.below bb h.kr.lt⟩
theorem AdB.grown {w V V' : World} {gn gr : Nat} {x : Nl} {row : Option Nat} (h : AdB w gn gr x V) (hg : V.grownBy V' row) (h2 : some gn ≠ row) (h3 : some gr ≠ row) (hr : ∀ r, row = some r → w.heap.size ≤ r) : AdB w gn gr x V' :=
  ⟨⟨hg.os.trans h.b.os, hg.tape.trans h.b.tape, hg.output.trans h.b.output, Nat.le_trans h.b.size hg.size, fun k hk hne => (hg.block k (Nat.lt_of_lt_of_le hk h.b.size) (fun e => by have := hr k e.symm; omega)).trans (h.b.block k hk hne)⟩, ⟨(hg.block gn h.kn.lt h2).trans h.kn.blk⟩, ⟨(hg.block gr h.kr.lt h3).trans h.kr.blk⟩⟩
def AdR (w w0 : World) (gn : Nat) (fe : Int) (fx : Nm) (gq : Nat) (L1 : List Nl) (V' : World) (er : Int) (A2 : Option Addr) (m2 c2 : Nat) : Prop :=
  But gn w0 V' ∧ er = fe ∧ ∃ l, Blk V' gn (ndC (fx, l)) 46 ∧
    (fe = 0 → ∃ k, fx.i = (k : Nat) + 1 ∧ k ≤ L1.length ∧ m2 = L1.length + 1 ∧ ChO w V' gq A2 m2 c2 (insN k (fx, l) L1))
def AdP (w w0 : World) (gn : Nat) (fe : Int) (fx : Nm) (gq : Nat) (L1 : List Nl) (e : Ending) (V' : World) : Prop :=
  ∃ er A2 m2 c2, e = .returned (.int .i64 er) ∧ Blk V' gq #[.slice A2 m2 c2] 24 ∧ Blk V' (w0.heap.size + 1) #[.slice none 0 0] 24 ∧ AdR w w0 gn fe fx gq L1 V' er A2 m2 c2
set_option maxRecDepth 100000 in
set_option maxHeartbeats 8000000 in
theorem add1_ch (pa : Int) (hpa : I64 pa) (G : Option Addr) (gc : Nat) (g : List Ins) (w w0 : World) (gp gg gn : Nat) (m : Nat) (M : List Nm) (V : World) (gq : Nat) (A1 : Option Addr) (c1 : Nat) (L1 : List Nl) (hC : ChP w0 m M V gq A1 c1 L1) (hK : HK V) (h6 : m + 1 ≤ 100000)
    (hw : Below w.heap.size w w0) (hgn : w.heap.size ≤ gn) (hgn0 : gn < w0.heap.size) (hpn : gp ≠ gn) (hgg : gg ≠ gn) (hp0 : gp < w0.heap.size) (hg0 : gg < w0.heap.size)
    (kp : Blk V gp #[.int .i64 pa] 3) (kg : Blk V gg #[.slice G g.length gc] 25) (kn : Blk V gn (ndC nl0) 46)
    (hG : Ri V V.heap.size G g.length (gF g)) (hgo : ∀ q ∈ g, insO q) (hgl : g.length ≤ 1000000000) (hgc : g.length ≤ gc)
    (hfr : freshE L1 pa g = 0 → ∃ k : Nat, (freshN L1 pa g).i = (k : Nat) + 1 ∧ k ≤ L1.length) :
    Calls Tryz.prog 34 #[.pointer (some ⟨gq, 0, none⟩), .pointer (some ⟨gp, 0, none⟩), .pointer (some ⟨gg, 0, none⟩), .pointer (some ⟨gn, 0, none⟩)] V fun e V' => AdP w w0 gn (freshE L1 pa g) (freshN L1 pa g) gq L1 e V' := by
  have hgt := hC.gt
  have hm := hC.row.len
  have hws := hw.size
  have hFR := Lib.hid (fun (V' : World) (hV : Below V.heap.size V V') => fresh_any A1 m c1 L1 pa hpa G gc g V' (hK.below hV (Nat.le_refl _)) ((hC.row.po.below hV (Nat.le_refl _)).more hV.size) hm hC.row.cap (by omega) ((hG.below hV (Nat.le_refl _)).more hV.size) hgo hgl hgc)
  have HM := Lib.hid hm
  clear hm
  obtain ⟨fe, hfe⟩ : ∃ fe, freshE L1 pa g = fe := ⟨_, rfl⟩
  obtain ⟨fx, hfx⟩ : ∃ fx, freshN L1 pa g = fx := ⟨_, rfl⟩
  simp only [hfe, hfx] at hFR hfr ⊢
  have HFI := Lib.hid hfr
  clear hfe hfx hfr
  unfold poV at hFR
  unfold ndV at hFR
  have J0 : AdA gq gp gg A1 m c1 pa G g.length gc V.drew := ⟨hC.box.drew, kp.drew, kg.drew⟩
  have hn0 := kn.drew
  go_enter Tryz.func34, Tryz.ntmps34
  go_wp2_with fail
  refine region_cutM ?_
  refine wp_region_held_drew (S := AdA gq gp gg A1 m c1 pa G g.length gc) (by kernel_rfl) J0 (fun _ => ?_)
  refine wpAnyH_take (i := 0) (v := .pointer (some ⟨gq, 0, none⟩)) rfl (by kernel_rfl) (by kernel_rfl) (by kernel_rfl) (fun _ _ _ h => nomatch h.1) (.inl ⟨by rfl, fun V hV => by go_simp⟩) J0 ?_
  try simp only [Act.put, List.getElem_toArray, List.getElem_cons_zero, List.getElem_cons_succ, List.setIfInBounds_toArray, List.set_cons_zero, List.set_cons_succ]
  refine wpAnyH_take (i := 1) (v := .pointer (some ⟨gq, 0, none⟩)) rfl (by kernel_rfl) (by kernel_rfl) (by kernel_rfl) (fun _ _ _ h => nomatch h.1) (.inl ⟨by rfl, fun V hV => by go_simp⟩) J0 ?_
  try simp only [Act.put, List.getElem_toArray, List.getElem_cons_zero, List.getElem_cons_succ, List.setIfInBounds_toArray, List.set_cons_zero, List.set_cons_succ]
  refine wpAnyH_take (i := 2) (v := .agg #[.slice A1 m c1]) rfl (by kernel_rfl) (by kernel_rfl) (by kernel_rfl) (fun _ _ _ h => nomatch h.1) (yieldsIf_blk (by rfl) 24 (.tmp 8) rfl gq rfl #[.slice A1 m c1] 24 _ (fun _ h => h.kq) Tryz.underlying24 rfl rfl) J0 ?_
  try simp only [Act.put, List.getElem_toArray, List.getElem_cons_zero, List.getElem_cons_succ, List.setIfInBounds_toArray, List.set_cons_zero, List.set_cons_succ]
  refine wpAnyH_take (i := 3) (v := .int .i64 pa) rfl (by kernel_rfl) (by kernel_rfl) (by kernel_rfl) (fun _ _ _ h => nomatch h.1) (.inl ⟨by rfl, fun V hV => by have c0 := hV.kp.cell 0; go_simp⟩) J0 ?_
  try simp only [Act.put, List.getElem_toArray, List.getElem_cons_zero, List.getElem_cons_succ, List.setIfInBounds_toArray, List.set_cons_zero, List.set_cons_succ]
  refine wpAnyH_take (i := 4) (v := .slice G g.length gc) rfl (by kernel_rfl) (by kernel_rfl) (by kernel_rfl) (fun _ _ _ h => nomatch h.1) (.inl ⟨by rfl, fun V hV => by have c0 := hV.kg.cell 0; go_simp⟩) J0 ?_
  try simp only [Act.put, List.getElem_toArray, List.getElem_cons_zero, List.getElem_cons_succ, List.setIfInBounds_toArray, List.set_cons_zero, List.set_cons_succ]
  refine wpAnyH_ready (rs := [5]) (by kernel_rfl) (by simp) ?_
  refine AllReadyH.cons rfl (fun K hK => ?_) AllReadyH.nil
  try simp only [Act.put, List.getElem_toArray, List.getElem_cons_zero, List.getElem_cons_succ, List.setIfInBounds_toArray, List.set_cons_zero, List.set_cons_succ]
  go_simp
  refine (hFR.out V.drew (Below.refl _ V).drew).mono ?_
  rintro e V1 ⟨l, rfl, hnr, hlo, bb⟩
  have J1 := J0.below bb
  have hn1 := hn0.below bb hn0.lt
  have b1 : Below V.heap.size V V1 := (Below.refl _ V).drew.trans (bb.mono (Nat.le_refl _))
  have hlo1 : ∀ a, l.1 = some a → V.heap.size ≤ a.block := hlo
  clear bb hlo
  go_wp2_with fail
  refine hK.out _ _ J1 (fun _ => ?_)
  clear hK K
  try simp only [Act.put, List.getElem_toArray, List.getElem_cons_zero, List.getElem_cons_succ, List.setIfInBounds_toArray, List.set_cons_zero, List.set_cons_succ]
  refine wpAnyH_take (i := 6) (v := .tuple #[.agg (ndC (fx, l)), .int .i64 fe]) rfl (by kernel_rfl) (by kernel_rfl) (by kernel_rfl) (fun _ _ _ h => nomatch h.1) (.inl ⟨by rfl, fun V hV => by go_simp⟩) J1 ?_
  try simp only [Act.put, List.getElem_toArray, List.getElem_cons_zero, List.getElem_cons_succ, List.setIfInBounds_toArray, List.set_cons_zero, List.set_cons_succ]
  refine wpAnyH_take (i := 7) (v := .agg (ndC (fx, l))) rfl (by kernel_rfl) (by kernel_rfl) (by kernel_rfl) (fun _ _ _ h => nomatch h.1) (.inl ⟨by rfl, fun V hV => by go_simp⟩) J1 ?_
  try simp only [Act.put, List.getElem_toArray, List.getElem_cons_zero, List.getElem_cons_succ, List.setIfInBounds_toArray, List.set_cons_zero, List.set_cons_succ]
  refine wpAnyH_take (i := 8) (v := .int .i64 fe) rfl (by kernel_rfl) (by kernel_rfl) (by kernel_rfl) (fun _ _ _ h => nomatch h.1) (.inl ⟨by rfl, fun V hV => by go_simp⟩) J1 ?_
  try simp only [Act.put, List.getElem_toArray, List.getElem_cons_zero, List.getElem_cons_succ, List.setIfInBounds_toArray, List.set_cons_zero, List.set_cons_succ]
  refine wpAnyH_ready (rs := [9]) (by kernel_rfl) (by simp) ?_
  refine AllReadyH.cons rfl (fun K hK => ?_) AllReadyH.nil
  try simp only [Act.put, List.getElem_toArray, List.getElem_cons_zero, List.getElem_cons_succ, List.setIfInBounds_toArray, List.set_cons_zero, List.set_cons_succ]
  rw [if_pos (by rfl)]
  refine wp_store_blk 46 (.tmp 3) (.tmp 13) rfl gn (ndC nl0) (ndC (fx, l)) 46 rfl rfl hn1 rfl (nd_inf (fx, l)) (nd_one (fx, l)) ?_
  intro V2 hn2 n2
  have J2 := J1.but n2 (by omega) hpn hgg
  refine hK.out _ _ J2 (fun _ => ?_)
  clear hK K
  try simp only [Act.put, List.getElem_toArray, List.getElem_cons_zero, List.getElem_cons_succ, List.setIfInBounds_toArray, List.set_cons_zero, List.set_cons_succ]
  refine wpAnyH_ready (rs := [10]) (by kernel_rfl) (by simp) ?_
  refine AllReadyH.cons rfl (fun K hK => ?_) AllReadyH.nil
  try simp only [Act.put, List.getElem_toArray, List.getElem_cons_zero, List.getElem_cons_succ, List.setIfInBounds_toArray, List.set_cons_zero, List.set_cons_succ]
  go_simp
  refine hK.out _ _ J2 (fun _ => ?_)
  clear hK K
  try simp only [Act.put, List.getElem_toArray, List.getElem_cons_zero, List.getElem_cons_succ, List.setIfInBounds_toArray, List.set_cons_zero, List.set_cons_succ]
  refine wpAnyH_done (by kernel_rfl) ?_ _
  refine ⟨rfl, ?_⟩
  have hgV : gq < V.heap.size := hC.box.lt
  have C1 := hC.below b1
  have hno2 : No V2 (gq + 1) A1 m c1 L1 := C1.row.but n2 (by omega) (fun y hy hl a ha => by have := hC.pr y hy a ha; omega)
  have hnr2 : Nr V2 V2.heap.size (fx, l) := hnr.off (fun hl a ha hlt => n2.block _ hlt (by have := hlo1 a ha; omega)) n2.size
  have B2 : AdB w0 gn (w0.heap.size + 1) (fx, l) V2 := ⟨((But.of_below hC.b gn).trans (But.of_below b1 gn)).trans n2, hn2, n2.blk7 C1.res (by omega)⟩
  have kq2 := J2.kq
  have hV2 : V.heap.size ≤ V2.heap.size := Nat.le_trans b1.size n2.size
  have hrow2 : ∀ g, (Value.slice A1 m c1).ownBlock = some g → gq + 1 ≤ g ∧ g < V.heap.size := fun g e => ⟨(hno2.own.lt g e).1, (hC.row.own.lt g e).2⟩
  have HPR := Lib.hid hC.pr
  clear n2 b1 J2 J1 J0 C1 hn1 hn0 hnr hFR hC
  by_cases h0 : fe = 0
  · obtain ⟨k, hki, hkl⟩ := HFI.out h0
    subst h0
    have hk : k ≤ m := by have := HM.out; omega
    have hkw : IntKind.i64.wrap (fx.i - 1) = (k : Int) := by rw [IntKind.wrap_i64]; omega
    have HKI := Lib.hid hki
    clear hki
    go_wp2_with fail
    have B3 : AdB w0 gn (w0.heap.size + 1) (fx, l) V2.drew := ⟨B2.b.drew, B2.kn.drew, B2.kr.drew⟩
    have kq3 := kq2.drew
    have hno3 : No V2.drew (gq + 1) A1 m c1 L1 := hno2.below ((Below.refl _ _).drew) (Nat.le_refl _)
    have hnr3 : Nr V2.drew V2.drew.heap.size (fx, l) := (hnr2.below ((Below.refl _ _).drew) (Nat.le_refl _))
    have hV3 : V.heap.size ≤ V2.drew.heap.size := hV2
    refine region_cutM ?_
    refine wp_region_held_drew (S := AdB w0 gn (w0.heap.size + 1) (fx, l)) (by kernel_rfl) B3 (fun _ => ?_)
    generalize V2.drew = V3 at B3 kq3 hno3 hnr3 hV3 ⊢
    refine wpAnyH_take (i := 0) (v := .pointer (some ⟨gq, 0, none⟩)) rfl (by kernel_rfl) (by kernel_rfl) (by kernel_rfl) (fun _ _ _ h => nomatch h.1) (.inl ⟨by rfl, fun V hV => by go_simp⟩) B3 ?_
    try simp only [Act.put, List.getElem_toArray, List.getElem_cons_zero, List.getElem_cons_succ, List.setIfInBounds_toArray, List.set_cons_zero, List.set_cons_succ]
    refine wpAnyH_take (i := 1) (v := .pointer (some ⟨gq, 0, none⟩)) rfl (by kernel_rfl) (by kernel_rfl) (by kernel_rfl) (fun _ _ _ h => nomatch h.1) (.inl ⟨by rfl, fun V hV => by go_simp⟩) B3 ?_
    try simp only [Act.put, List.getElem_toArray, List.getElem_cons_zero, List.getElem_cons_succ, List.setIfInBounds_toArray, List.set_cons_zero, List.set_cons_succ]
    refine wpAnyH_take (i := 2) (v := .pointer (some ⟨gq, 0, none⟩)) rfl (by kernel_rfl) (by kernel_rfl) (by kernel_rfl) (fun _ _ _ h => nomatch h.1) (.inl ⟨by rfl, fun V hV => by go_simp⟩) B3 ?_
    try simp only [Act.put, List.getElem_toArray, List.getElem_cons_zero, List.getElem_cons_succ, List.setIfInBounds_toArray, List.set_cons_zero, List.set_cons_succ]
    refine wpAnyH_take (i := 3) (v := .pointer (some ⟨gq, 0, none⟩)) rfl (by kernel_rfl) (by kernel_rfl) (by kernel_rfl) (fun _ _ _ h => nomatch h.1) (.inl ⟨by rfl, fun V hV => by go_simp⟩) B3 ?_
    try simp only [Act.put, List.getElem_toArray, List.getElem_cons_zero, List.getElem_cons_succ, List.setIfInBounds_toArray, List.set_cons_zero, List.set_cons_succ]
    refine wpAnyH_take (i := 5) (v := .pointer (some ⟨gn, 0, none⟩)) rfl (by kernel_rfl) (by kernel_rfl) (by kernel_rfl) (fun _ _ _ h => nomatch h.1) (.inl ⟨by rfl, fun V hV => by go_simp⟩) B3 ?_
    try simp only [Act.put, List.getElem_toArray, List.getElem_cons_zero, List.getElem_cons_succ, List.setIfInBounds_toArray, List.set_cons_zero, List.set_cons_succ]
    refine wpAnyH_take (i := 6) (v := .int .i64 fx.i) rfl (by kernel_rfl) (by kernel_rfl) (by kernel_rfl) (fun _ _ _ h => nomatch h.1) (.inl ⟨by rfl, fun V hV => by have c0 : V.cell? ⟨gn, 0, none⟩ = some (.int .i64 fx.i) := hV.kn.cell 0; go_simp⟩) B3 ?_
    try simp only [Act.put, List.getElem_toArray, List.getElem_cons_zero, List.getElem_cons_succ, List.setIfInBounds_toArray, List.set_cons_zero, List.set_cons_succ]
    refine wpAnyH_take (i := 7) (v := .int .i64 (k : Int)) rfl (by kernel_rfl) (by kernel_rfl) (by kernel_rfl) (fun _ _ _ h => nomatch h.1) (.inl ⟨by rfl, fun V hV => by go_simp⟩) B3 ?_
    try simp only [Act.put, List.getElem_toArray, List.getElem_cons_zero, List.getElem_cons_succ, List.setIfInBounds_toArray, List.set_cons_zero, List.set_cons_succ]
    refine wpAnyH_take (i := 8) (v := .agg (ndC (fx, l))) rfl (by kernel_rfl) (by kernel_rfl) (by kernel_rfl) (fun _ _ _ h => nomatch h.1) (yieldsIf_blk (by rfl) 46 (.tmp 3) rfl gn rfl (ndC (fx, l)) 46 _ (fun _ h => h.kn) Tryz.underlying46 rfl (nd_inf (fx, l))) B3 ?_
    try simp only [Act.put, List.getElem_toArray, List.getElem_cons_zero, List.getElem_cons_succ, List.setIfInBounds_toArray, List.set_cons_zero, List.set_cons_succ]
    refine wpAnyH_ready (rs := [4, 9]) (by kernel_rfl) (by simp) ?_
    refine AllReadyH.cons rfl (fun K hK => ?_) (AllReadyH.cons rfl (fun K hK => ?_) AllReadyH.nil)
    · skip
      try simp only [Act.put, List.getElem_toArray, List.getElem_cons_zero, List.getElem_cons_succ, List.setIfInBounds_toArray, List.set_cons_zero, List.set_cons_succ]
      have q1 : V3.cell? ⟨gq, 0, none⟩ = some (.slice A1 m c1) := kq3.cell 0
      go_simp
      clear q1
      refine hK.out _ _ B3 (fun _ => ?_)
      clear hK K
      try simp only [Act.put, List.getElem_toArray, List.getElem_cons_zero, List.getElem_cons_succ, List.setIfInBounds_toArray, List.set_cons_zero, List.set_cons_succ]
      refine wpAnyH_ready (rs := [9]) (by kernel_rfl) (by simp) ?_
      refine AllReadyH.cons rfl (fun K hK => ?_) AllReadyH.nil
      try simp only [Act.put, List.getElem_toArray, List.getElem_cons_zero, List.getElem_cons_succ, List.setIfInBounds_toArray, List.set_cons_zero, List.set_cons_succ]
      unfold ndC
      go_simp
      have hgb := heap_alloc_new V3 (.cells (ndC (fx, l)) 46)
      have bb : Below V3.heap.size V3 (V3.alloc (.cells (ndC (fx, l)) 46)) := (Below.refl _ _).alloc (Nat.le_refl _) _
      show K _ (V3.alloc (.cells (ndC (fx, l)) 46))
      have B4 := B3.step bb
      have kq4 := kq3.below bb kq3.lt
      have hno4 := hno3.below bb (Nat.le_refl _)
      have hnr4 := (hnr3.below bb (Nat.le_refl _)).more bb.size
      have hV4 := Nat.le_trans hV3 bb.size
      generalize V3.alloc (.cells (ndC (fx, l)) 46) = V4 at hgb bb B4 kq4 hno4 hnr4 hV4 ⊢
      refine hK.out _ _ B4 (fun _ => ?_)
      clear hK K
      try simp only [Act.put, List.getElem_toArray, List.getElem_cons_zero, List.getElem_cons_succ, List.setIfInBounds_toArray, List.set_cons_zero, List.set_cons_succ]
      refine wpAnyH_ready (rs := [10]) (by kernel_rfl) (by simp) ?_
      refine AllReadyH.cons rfl (fun K hK => ?_) AllReadyH.nil
      try simp only [Act.put, List.getElem_toArray, List.getElem_cons_zero, List.getElem_cons_succ, List.setIfInBounds_toArray, List.set_cons_zero, List.set_cons_succ]
      go_simp
      have hxa : ∀ g, (Value.slice A1 m c1).ownBlock = some g → 0 < (fx, l).1.g.length → ∀ a, (fx, l).2.1 = some a → a.block ≠ g := fun g e _ a ha => by have := hlo1 a ha; have := hrow2 g e; omega
      refine (insert_any (gq + 1) A1 m c1 k L1 (fx, l) V3.heap.size V4 hno4 hnr4 hxa hgb (fun g e => by have := hrow2 g e; omega) h6 (by omega) hk).mono ?_
      rintro e V5 ⟨A2, c2, rfl, ho, hgr, bb5⟩
      go_wp2_with fail
      have B5 := B4.grown hgr (fun e => by have := hrow2 _ e.symm; omega) (fun e => by have := hrow2 _ e.symm; omega) (fun r e => by have := hrow2 r e; omega)
      have kq5 : Blk V5 gq #[.slice A1 m c1] 24 := ⟨(hgr.block gq kq4.lt (fun e => by have := hrow2 _ e.symm; omega)).trans kq4.blk⟩
      refine hK.out _ _ B5 (fun _ => ?_)
      clear hK K
      try simp only [Act.put, List.getElem_toArray, List.getElem_cons_zero, List.getElem_cons_succ, List.setIfInBounds_toArray, List.set_cons_zero, List.set_cons_succ]
      refine wpAnyH_take (i := 11) (v := .pointer (some ⟨gq, 0, none⟩)) rfl (by kernel_rfl) (by kernel_rfl) (by kernel_rfl) (fun _ _ _ h => nomatch h.1) (.inl ⟨by rfl, fun V hV => by go_simp⟩) B5 ?_
      try simp only [Act.put, List.getElem_toArray, List.getElem_cons_zero, List.getElem_cons_succ, List.setIfInBounds_toArray, List.set_cons_zero, List.set_cons_succ]
      refine wpAnyH_take (i := 12) (v := .pointer (some ⟨gq, 0, none⟩)) rfl (by kernel_rfl) (by kernel_rfl) (by kernel_rfl) (fun _ _ _ h => nomatch h.1) (.inl ⟨by rfl, fun V hV => by go_simp⟩) B5 ?_
      try simp only [Act.put, List.getElem_toArray, List.getElem_cons_zero, List.getElem_cons_succ, List.setIfInBounds_toArray, List.set_cons_zero, List.set_cons_succ]
      refine wpAnyH_ready (rs := [13]) (by kernel_rfl) (by simp) ?_
      refine AllReadyH.cons rfl (fun K hK => ?_) AllReadyH.nil
      try simp only [Act.put, List.getElem_toArray, List.getElem_cons_zero, List.getElem_cons_succ, List.setIfInBounds_toArray, List.set_cons_zero, List.set_cons_succ]
      have q5 : V5.cell? ⟨gq, 0, none⟩ = some (.slice A1 m c1) := kq5.cell 0
      have f5 := kq5.frozen 0
      go_simp
      have B6 : AdB w0 gn (w0.heap.size + 1) (fx, l) (V5.setCell ⟨gq, 0, none⟩ (.slice A2 (m + 1) c2)) := ⟨B5.b.setCell (p := ⟨gq, 0, none⟩) (.inr (by simp; omega)) _, B5.kn.far (by simp; omega) _, B5.kr.far (by simp; omega) _⟩
      have kq6 : Blk (V5.setCell ⟨gq, 0, none⟩ (.slice A2 (m + 1) c2)) gq #[.slice A2 (m + 1) c2] 24 := kq5.set_ 0 _
      refine hK.out _ _ B6 (fun _ => ?_)
      clear hK K
      try simp only [Act.put, List.getElem_toArray, List.getElem_cons_zero, List.getElem_cons_succ, List.setIfInBounds_toArray, List.set_cons_zero, List.set_cons_succ]
      refine wpAnyH_done (by kernel_rfl) ?_ _
      refine ⟨rfl, ?_⟩
      go_wp2_with fail
      go_ret
      refine ⟨0, A2, m + 1, c2, rfl, kq6, B6.kr, B6.b, rfl, l, B6.kn, fun _ => ⟨k, HKI.out, hkl, by rw [← HM.out], hw.trans (B6.b.below _ hgn hws), by omega, ?_, ?_⟩⟩
      · refine ho.but (g := gq) ((But.refl gq V5).setCell (p := ⟨gq, 0, none⟩) (.inl rfl) _) (by omega) (fun y hy hl a ha => ?_)
        rcases insN_mem hy with rfl | h1
        · have := hlo1 a ha; omega
        · have := HPR.out y h1 a ha; omega
      · intro y hy a ha
        rcases insN_mem hy with rfl | h1
        · have := hlo1 a ha; omega
        · exact HPR.out y h1 a ha
    · skip
      try simp only [Act.put, List.getElem_toArray, List.getElem_cons_zero, List.getElem_cons_succ, List.setIfInBounds_toArray, List.set_cons_zero, List.set_cons_succ]
      unfold ndC
      go_simp
      have hgb := heap_alloc_new V3 (.cells (ndC (fx, l)) 46)
      have bb : Below V3.heap.size V3 (V3.alloc (.cells (ndC (fx, l)) 46)) := (Below.refl _ _).alloc (Nat.le_refl _) _
      show K _ (V3.alloc (.cells (ndC (fx, l)) 46))
      have B4 := B3.step bb
      have kq4 := kq3.below bb kq3.lt
      have hno4 := hno3.below bb (Nat.le_refl _)
      have hnr4 := (hnr3.below bb (Nat.le_refl _)).more bb.size
      have hV4 := Nat.le_trans hV3 bb.size
      generalize V3.alloc (.cells (ndC (fx, l)) 46) = V4 at hgb bb B4 kq4 hno4 hnr4 hV4 ⊢
      refine hK.out _ _ B4 (fun _ => ?_)
      clear hK K
      try simp only [Act.put, List.getElem_toArray, List.getElem_cons_zero, List.getElem_cons_succ, List.setIfInBounds_toArray, List.set_cons_zero, List.set_cons_succ]
      refine wpAnyH_ready (rs := [4]) (by kernel_rfl) (by simp) ?_
      refine AllReadyH.cons rfl (fun K hK => ?_) AllReadyH.nil
      try simp only [Act.put, List.getElem_toArray, List.getElem_cons_zero, List.getElem_cons_succ, List.setIfInBounds_toArray, List.set_cons_zero, List.set_cons_succ]
      have q1 : V4.cell? ⟨gq, 0, none⟩ = some (.slice A1 m c1) := kq4.cell 0
      go_simp
      clear q1
      refine hK.out _ _ B4 (fun _ => ?_)
      clear hK K
      try simp only [Act.put, List.getElem_toArray, List.getElem_cons_zero, List.getElem_cons_succ, List.setIfInBounds_toArray, List.set_cons_zero, List.set_cons_succ]
      refine wpAnyH_ready (rs := [10]) (by kernel_rfl) (by simp) ?_
      refine AllReadyH.cons rfl (fun K hK => ?_) AllReadyH.nil
      try simp only [Act.put, List.getElem_toArray, List.getElem_cons_zero, List.getElem_cons_succ, List.setIfInBounds_toArray, List.set_cons_zero, List.set_cons_succ]
      go_simp
      have hxa : ∀ g, (Value.slice A1 m c1).ownBlock = some g → 0 < (fx, l).1.g.length → ∀ a, (fx, l).2.1 = some a → a.block ≠ g := fun g e _ a ha => by have := hlo1 a ha; have := hrow2 g e; omega
      refine (insert_any (gq + 1) A1 m c1 k L1 (fx, l) V3.heap.size V4 hno4 hnr4 hxa hgb (fun g e => by have := hrow2 g e; omega) h6 (by omega) hk).mono ?_
      rintro e V5 ⟨A2, c2, rfl, ho, hgr, bb5⟩
      go_wp2_with fail
      have B5 := B4.grown hgr (fun e => by have := hrow2 _ e.symm; omega) (fun e => by have := hrow2 _ e.symm; omega) (fun r e => by have := hrow2 r e; omega)
      have kq5 : Blk V5 gq #[.slice A1 m c1] 24 := ⟨(hgr.block gq kq4.lt (fun e => by have := hrow2 _ e.symm; omega)).trans kq4.blk⟩
      refine hK.out _ _ B5 (fun _ => ?_)
      clear hK K
      try simp only [Act.put, List.getElem_toArray, List.getElem_cons_zero, List.getElem_cons_succ, List.setIfInBounds_toArray, List.set_cons_zero, List.set_cons_succ]
      refine wpAnyH_take (i := 11) (v := .pointer (some ⟨gq, 0, none⟩)) rfl (by kernel_rfl) (by kernel_rfl) (by kernel_rfl) (fun _ _ _ h => nomatch h.1) (.inl ⟨by rfl, fun V hV => by go_simp⟩) B5 ?_
      try simp only [Act.put, List.getElem_toArray, List.getElem_cons_zero, List.getElem_cons_succ, List.setIfInBounds_toArray, List.set_cons_zero, List.set_cons_succ]
      refine wpAnyH_take (i := 12) (v := .pointer (some ⟨gq, 0, none⟩)) rfl (by kernel_rfl) (by kernel_rfl) (by kernel_rfl) (fun _ _ _ h => nomatch h.1) (.inl ⟨by rfl, fun V hV => by go_simp⟩) B5 ?_
      try simp only [Act.put, List.getElem_toArray, List.getElem_cons_zero, List.getElem_cons_succ, List.setIfInBounds_toArray, List.set_cons_zero, List.set_cons_succ]
      refine wpAnyH_ready (rs := [13]) (by kernel_rfl) (by simp) ?_
      refine AllReadyH.cons rfl (fun K hK => ?_) AllReadyH.nil
      try simp only [Act.put, List.getElem_toArray, List.getElem_cons_zero, List.getElem_cons_succ, List.setIfInBounds_toArray, List.set_cons_zero, List.set_cons_succ]
      have q5 : V5.cell? ⟨gq, 0, none⟩ = some (.slice A1 m c1) := kq5.cell 0
      have f5 := kq5.frozen 0
      go_simp
      have B6 : AdB w0 gn (w0.heap.size + 1) (fx, l) (V5.setCell ⟨gq, 0, none⟩ (.slice A2 (m + 1) c2)) := ⟨B5.b.setCell (p := ⟨gq, 0, none⟩) (.inr (by simp; omega)) _, B5.kn.far (by simp; omega) _, B5.kr.far (by simp; omega) _⟩
      have kq6 : Blk (V5.setCell ⟨gq, 0, none⟩ (.slice A2 (m + 1) c2)) gq #[.slice A2 (m + 1) c2] 24 := kq5.set_ 0 _
      refine hK.out _ _ B6 (fun _ => ?_)
      clear hK K
      try simp only [Act.put, List.getElem_toArray, List.getElem_cons_zero, List.getElem_cons_succ, List.setIfInBounds_toArray, List.set_cons_zero, List.set_cons_succ]
      refine wpAnyH_done (by kernel_rfl) ?_ _
      refine ⟨rfl, ?_⟩
      go_wp2_with fail
      go_ret
      refine ⟨0, A2, m + 1, c2, rfl, kq6, B6.kr, B6.b, rfl, l, B6.kn, fun _ => ⟨k, HKI.out, hkl, by rw [← HM.out], hw.trans (B6.b.below _ hgn hws), by omega, ?_, ?_⟩⟩
      · refine ho.but (g := gq) ((But.refl gq V5).setCell (p := ⟨gq, 0, none⟩) (.inl rfl) _) (by omega) (fun y hy hl a ha => ?_)
        rcases insN_mem hy with rfl | h1
        · have := hlo1 a ha; omega
        · have := HPR.out y h1 a ha; omega
      · intro y hy a ha
        rcases insN_mem hy with rfl | h1
        · have := hlo1 a ha; omega
        · exact HPR.out y h1 a ha
  · have hne : (fe == 0) = false := by simpa using h0
    have HN := Lib.hid h0
    clear h0
    go_wp2_with fail
    go_ret
    exact ⟨fe, _, _, _, rfl, kq2, B2.kr, B2.b, rfl, l, B2.kn, fun h => absurd h HN.out⟩
end Go.Proofs.YtelfdpcenplhjaaGreatDoor
namespace Go.Proofs.YtelfdpcenplhjaaGreatDoor
open Go.RowKit Go.Shelf
set_option linter.unusedVariables false
set_option linter.unusedSimpArgs false
theorem find_names (p : Nm → Bool) : ∀ {L M : List Nl}, L.map (·.1) = M.map (·.1) → (L.find? fun x => p x.1).map (·.1) = (M.find? fun x => p x.1).map (·.1)
  | [], [], _ => rfl
  | [], _ :: _, h => by simp at h
  | _ :: _, [], h => by simp at h
  | x :: L, y :: M, h => by
    simp only [List.map_cons, List.cons.injEq] at h
    obtain ⟨h1, h2⟩ := h
    have ih := find_names p h2
    rw [List.find?_cons, List.find?_cons, h1]
    cases p y.1
    · exact ih
    · simp [h1]
theorem count_names (p : Nm → Bool) {L M : List Nl} (h : L.map (·.1) = M.map (·.1)) : L.countP (fun x => p x.1) = M.countP (fun x => p x.1) := by
  have e : ∀ K : List Nl, K.countP (fun x => p x.1) = (K.map (·.1)).countP p := fun K => by rw [List.countP_map]; rfl
  rw [e, e, h]
theorem all_names (p : Nm → Bool) {L M : List Nl} (h : L.map (·.1) = M.map (·.1)) : L.all (fun x => p x.1) = M.all (fun x => p x.1) := by
  have e : ∀ K : List Nl, K.all (fun x => p x.1) = (K.map (·.1)).all p := fun K => by rw [List.all_map]; rfl
  rw [e, e, h]
section
variable {L M : List Nl}
theorem idR_names (h : L.map (·.1) = M.map (·.1)) (id : Int) : (idR L id).1.1 = (idR M id).1.1 ∧ (idR L id).2 = (idR M id).2 := by
  have e := find_names (fun x => x.i == id) h
  unfold idR
  cases h1 : L.find? (fun x => x.1.i == id) <;> cases h2 : M.find? (fun x => x.1.i == id) <;> rw [h1, h2] at e <;> simp at e
  · exact ⟨rfl, rfl⟩
  · exact ⟨e, rfl⟩
theorem kids_names (h : L.map (·.1) = M.map (·.1)) (id : Int) : kidsN L id = kidsN M id := count_names (fun x => x.p == id) h
theorem freeB_names (h : L.map (·.1) = M.map (·.1)) : freeB L = freeB M := by
  funext k
  have e := find_names (fun x => x.i == ((k : Int) + 1)) h
  unfold freeB
  cases h1 : L.find? (fun x => x.1.i == ((k : Int) + 1)) <;> cases h2 : M.find? (fun x => x.1.i == ((k : Int) + 1)) <;> rw [h1, h2] at e <;> simp at e
  all_goals rfl
theorem freeR_names (h : L.map (·.1) = M.map (·.1)) : freeR L = freeR M := by unfold freeR; rw [freeB_names h]
theorem szG_names (h : L.map (·.1) = M.map (·.1)) (pa : Int) (g : List Ins) : szG L pa g = szG M pa g := by unfold szG; rw [(idR_names h pa).1]
theorem freshE_names (h : L.map (·.1) = M.map (·.1)) (pa : Int) (g : List Ins) : freshE L pa g = freshE M pa g := by unfold freshE; rw [(idR_names h pa).2, freeR_names h, szG_names h]
theorem freshN_names (h : L.map (·.1) = M.map (·.1)) (pa : Int) (g : List Ins) : freshN L pa g = freshN M pa g := by unfold freshN; rw [freshE_names h, freeR_names h, szG_names h]
theorem standV_names (h : L.map (·.1) = M.map (·.1)) : standV L = standV M := by funext x; unfold standV; rw [(idR_names h x.p).1, (idR_names h x.p).2, kids_names h]
theorem rise_names : ∀ {L M : List Nl} (l : Int), L.map (·.1) = M.map (·.1) → riseB l L = riseB l M
  | [], [], _, _ => rfl
  | [], _ :: _, _, h => by simp at h
  | _ :: _, [], _, h => by simp at h
  | x :: L, y :: M, l, h => by
    simp only [List.map_cons, List.cons.injEq] at h
    unfold riseB
    rw [h.1, rise_names _ h.2]
theorem chkP_names (h : L.map (·.1) = M.map (·.1)) : chkP L = chkP M := by
  unfold chkP
  rw [rise_names 0 h, standV_names h, all_names (standV M) h]
end
theorem holes_le : ∀ (i : Nat) (L : List Nl), (∀ j, j < i → ∃ x ∈ L, x.1.i = (j : Int) + 1) → i ≤ L.length
  | 0, _, _ => Nat.zero_le _
  | i + 1, L, h => by
    obtain ⟨x, hx, hxi⟩ := h i (Nat.lt_succ_self i)
    obtain ⟨s, t, rfl⟩ := List.append_of_mem hx
    have ih := holes_le i (s ++ t) fun j hj => by
      obtain ⟨y, hy, hyj⟩ := h j (by omega)
      refine ⟨y, ?_, hyj⟩
      rcases List.mem_append.1 hy with h1 | h1
      · exact List.mem_append_left _ h1
      · rcases List.mem_cons.1 h1 with rfl | h2
        · omega
        · exact List.mem_append_right _ h2
    simp only [List.length_append, List.length_cons] at ih ⊢
    omega
theorem fresh_at {L : List Nl} {pa : Int} {g : List Ins} (h : freshE L pa g = 0) : ∃ k : Nat, (freshN L pa g).i = (k : Nat) + 1 ∧ k ≤ L.length := by
  have hn : (freshN L pa g).i = (freeR L).1 := by unfold freshN; rw [if_pos h]
  have h2 : (freeR L).2 = true := by
    unfold freshE at h
    by_cases hc : chkG g = 0
    · rw [if_pos hc] at h
      by_cases hp : ((idR L pa).2 || pa == 0) = true
      · rw [if_pos hp] at h
        by_cases hz : ((freeR L).2 && decide (szG L pa g ≤ 256)) = true
        · exact (Bool.and_eq_true_iff.1 hz).1
        · rw [if_neg hz] at h; cases h
      · rw [if_neg hp] at h; cases h
    · rw [if_neg hc] at h; exact absurd h hc
  unfold freeR at hn h2
  cases hf : (List.range 24).find? (freeB L) with
  | none => rw [hf] at h2; cases h2
  | some i =>
    rw [hf] at hn
    refine ⟨i, hn, holes_le i L fun j hj => ?_⟩
    have hall := List.find?_eq_some_iff_append.1 hf
    obtain ⟨hfi, s, t, hst, hs⟩ := hall
    have hlen : s.length = i := by
      have := congrArg (fun l => l[s.length]?) hst
      simp at this
      have hsl : s.length < 24 := by have := congrArg List.length hst; simp at this; omega
      rw [List.getElem?_range hsl] at this
      simpa using this
    have hjs : j ∈ s := by
      have hj2 : s[j]? = some j := by
        have := congrArg (fun l : List Nat => l[j]?) hst
        change (List.range 24)[j]? = (s ++ i :: t)[j]? at this
        rw [List.getElem?_append_left (by omega), List.getElem?_range (by have := congrArg List.length hst; simp at this; omega)] at this
        exact this.symm
      exact List.mem_of_getElem? hj2
    have hnf := hs j hjs
    unfold freeB at hnf
    cases hfd : L.find? (fun x => x.1.i == ((j : Int) + 1)) with
    | none => rw [hfd] at hnf; simp at hnf
    | some x => exact ⟨x, List.mem_of_find?_eq_some hfd, by have := List.find?_some hfd; simpa using this⟩
theorem fresh_none {L : List Nl} {pa : Int} {g : List Ins} (h : ¬ freshE L pa g = 0) : freshN L pa g = nm0 := by unfold freshN; rw [if_neg h]
def insM (k : Nat) (x : Nm) (M : List Nm) : List Nm := M.take k ++ x :: M.drop k
theorem names_ins {k : Nat} {x : Nl} {L : List Nl} : (insN k x L).map (·.1) = insM k x.1 (L.map (·.1)) := by simp [insN, insM, List.map_take, List.map_drop]
end Go.Proofs.YtelfdpcenplhjaaGreatDoor
namespace Go.Proofs.YtelfdpcenplhjaaGreatDoor
open Go.RowKit Go.Shelf
set_option linter.unusedVariables false
set_option linter.unusedSimpArgs false
structure AdD (gt gn : Nat) (A2 : Option Addr) (m2 c2 : Nat) (y : Nl) (V : World) : Prop where
  k : Blk V gt #[.slice A2 m2 c2] 24
  n : Blk V gn (ndC y) 46
theorem AdD.y {gt gn m2 c2 : Nat} {A2 : Option Addr} {y : Nl} {V : World} (h : AdD gt gn A2 m2 c2 y V) {yi : Int} (hy : y.1.i = yi) : V.cell? ⟨gn, 0, none⟩ = some (.int .i64 yi) := by rw [← hy]; exact h.n.cell 0
theorem results_row_tmp2 {P : Program} {fn : Func} {p u v : Tmp} {ty : TypeId} (h : fn.results = #[.cell p ty, .tmp u, .tmp v]) (tmps : Array Value) (w : World) (g : Nat) (t : TypeId) (cs : Array Value) (d : TypeDesc)
    (hp : tmps.getD p undef = .pointer (some ⟨g, 0, none⟩)) (hg : Blk w g cs t)
    (hu : P.underlying ty = some d) (hd : (match d with | .struct _ | .array _ _ => true | _ => false) = true) (hi : (P.info? ty).map (·.size) = some cs.size) (x y : Value) (hx : tmps.getD u undef = x) (hy : tmps.getD v undef = y) :
    (results fn tmps).run P w = .ok (.tuple #[.agg cs, x, y]) w := by
  subst hx hy
  have hp' : tmps[p]?.getD undef = .pointer (some ⟨g, 0, none⟩) := by simpa using hp
  simp [results, h, hp', asAddr, run_loadVar_row w g t ty cs (0, 0) d hg.blk hu hd hi]
def AddO (w : World) (L : List Nl) (pa : Int) (g : List Ins) (e : Ending) (w' : World) : Prop :=
  Below w.heap.size w w' ∧
  ((¬ chkP L = 0 ∧ e = .returned (.tuple #[poV none 0 0, .int .i64 0, .int .i64 (chkP L)])) ∨
   (chkP L = 0 ∧ ¬ freshE L pa g = 0 ∧ e = .returned (.tuple #[poV none 0 0, .int .i64 0, .int .i64 (freshE L pa g)])) ∨
   (chkP L = 0 ∧ freshE L pa g = 0 ∧ ∃ (k : Nat) (A2 : Option Addr) (c2 : Nat) (L2 : List Nl), (freshN L pa g).i = (k : Nat) + 1 ∧ k ≤ L.length ∧ L2.map (·.1) = insM k (freshN L pa g) (L.map (·.1)) ∧ No w' w.heap.size A2 L2.length c2 L2 ∧ e = .returned (.tuple #[poV A2 L2.length c2, .int .i64 (freshN L pa g).i, .int .i64 0])))
set_option maxRecDepth 100000 in
set_option maxHeartbeats 4000000 in
theorem add_any (A : Option Addr) (m c : Nat) (L : List Nl) (pa : Int) (hpa : I64 pa) (G : Option Addr) (gc : Nat) (g : List Ins) (w : World) (hK : HK w) (hP : Po w w.heap.size A L) (hm : m = L.length) (hmc : m ≤ c) (h6 : m + 1 ≤ 100000) (hg : ∀ x ∈ L, x.1.g.length ≤ 300)
    (hG : Ri w w.heap.size G g.length (gF g)) (hgo : ∀ q ∈ g, insO q) (hgl : g.length ≤ 1000000000) (hgc : g.length ≤ gc) :
    Calls Tryz.prog 12 #[poV A m c, .int .i64 pa, .slice G g.length gc] w fun e w' => AddO w L pa g e w' := by
  obtain ⟨wa, hwa⟩ : ∃ wa, wa = w.alloc (.cells #[.slice A m c] 24) := ⟨_, rfl⟩
  obtain ⟨wb, hwb⟩ : ∃ wb, wb = wa.alloc (.cells #[.int .i64 pa] 3) := ⟨_, rfl⟩
  obtain ⟨wc, hwc⟩ : ∃ wc, wc = wb.alloc (.cells #[.slice G g.length gc] 25) := ⟨_, rfl⟩
  obtain ⟨wd, hwd⟩ : ∃ wd, wd = wc.alloc (.cells #[.slice none 0 0] 24) := ⟨_, rfl⟩
  obtain ⟨w0, hw0⟩ : ∃ w0, w0 = wd.alloc (.cells (ndC nl0) 46) := ⟨_, rfl⟩
  have sa : wa.heap.size = w.heap.size + 1 := by rw [hwa]; simp
  have sb : wb.heap.size = w.heap.size + 1 + 1 := by rw [hwb]; simp [sa]
  have sc : wc.heap.size = w.heap.size + 1 + 1 + 1 := by rw [hwc]; simp [sb]
  have sd : wd.heap.size = w.heap.size + 1 + 1 + 1 + 1 := by rw [hwd]; simp [sc]
  have s0 : w0.heap.size = w.heap.size + 1 + 1 + 1 + 1 + 1 := by rw [hw0]; simp [sd]
  have k2 : Blk w0 w.heap.size #[.slice A m c] 24 := by rw [hw0, hwd, hwc, hwb, hwa]; exact ((((Blk.new w _ _).alloc _).alloc _).alloc _).alloc _
  have k3 : Blk w0 (w.heap.size + 1) #[.int .i64 pa] 3 := by rw [hw0, hwd, hwc, hwb]; exact (((Blk.new_ wa _ _ sa).alloc _).alloc _).alloc _
  have k4 : Blk w0 (w.heap.size + 1 + 1) #[.slice G g.length gc] 25 := by rw [hw0, hwd, hwc]; exact ((Blk.new_ wb _ _ sb).alloc _).alloc _
  have k6 : Blk w0 (w.heap.size + 1 + 1 + 1) #[.slice none 0 0] 24 := by rw [hw0, hwd]; exact (Blk.new_ wc _ _ sc).alloc _
  have k9 : Blk w0 (w.heap.size + 1 + 1 + 1 + 1) (ndC nl0) 46 := by rw [hw0]; exact Blk.new_ wd _ _ sd
  have B0 : Below w.heap.size w w0 := by rw [hw0, hwd, hwc, hwb, hwa]; exact (((((Below.refl _ w).alloc (Nat.le_refl _) _).alloc (by simp) _).alloc (by simp; omega) _).alloc (by simp; omega) _).alloc (by simp; omega) _
  have CH := changed_any 34 #[.pointer (some ⟨w.heap.size + 1, 0, none⟩), .pointer (some ⟨w.heap.size + 1 + 1, 0, none⟩), .pointer (some ⟨w.heap.size + 1 + 1 + 1 + 1, 0, none⟩)] A m c L w0 (hK.below B0 (Nat.le_refl _)).k ((hP.below B0 (Nat.le_refl _)).more B0.size) hm hmc (by omega) hg
    (enters_of Tryz.func34 (by kernel_rfl) rfl) (fun V gq A1 c1 L1 V' er A2 m2 c2 => AdR w w0 (w.heap.size + 1 + 1 + 1 + 1) (freshE L pa g) (freshN L pa g) gq L1 V' er A2 m2 c2)
    (fun V gq A1 c1 L1 hC _ => by
      have hnm := hC.names
      have hfr : freshE L1 pa g = 0 → ∃ k : Nat, (freshN L1 pa g).i = (k : Nat) + 1 ∧ k ≤ L1.length := fresh_at
      have := add1_ch pa hpa G gc g w w0 (w.heap.size + 1) (w.heap.size + 1 + 1) (w.heap.size + 1 + 1 + 1 + 1) m _ V gq A1 c1 L1 hC (hK.below (B0.trans (hC.b.mono B0.size)) (Nat.le_refl _)) h6 B0 (by omega) (by omega) (by omega) (by omega) (by omega) (by omega)
        (k3.below hC.b k3.lt) (k4.below hC.b k4.lt) (k9.below hC.b k9.lt) ((hG.below (B0.trans (hC.b.mono B0.size)) (Nat.le_refl _)).more (B0.trans (hC.b.mono B0.size)).size) hgo hgl hgc hfr
      rw [freshE_names hnm, freshN_names hnm] at this
      exact this)
  obtain ⟨fe, hfe⟩ : ∃ fe, freshE L pa g = fe := ⟨_, rfl⟩
  obtain ⟨fx, hfx⟩ : ∃ fx, freshN L pa g = fx := ⟨_, rfl⟩
  have HF0 := Lib.hid (show ¬ fe = 0 → fx.i = 0 from fun h => by rw [← hfx, fresh_none (by rw [hfe]; exact h)]; rfl)
  have HM := Lib.hid hm
  unfold AddO
  simp only [hfe, hfx] at CH ⊢
  clear hm hfe hfx
  unfold poV at CH ⊢
  rw [hw0, hwd, hwc, hwb, hwa] at k2 CH
  go_enter Tryz.func12, Tryz.ntmps12
  go_wp2_with (refine wpList_load_row rfl 24 (.tmp 3) rfl w.heap.size rfl 24 #[.slice A m c] (0, 0) _ k2.blk Tryz.underlying24 rfl (po_info A m c) ?_)
  refine CH.mono ?_
  rintro e w1 h1
  rw [← hwa, ← hwb, ← hwc, ← hwd, ← hw0] at h1
  obtain ⟨A2, m2, c2, er, y, rfl, hn1, hb1, hout⟩ : ∃ A2 m2 c2 er y, e = .returned (.tuple #[.agg #[.slice A2 m2 c2], .int .i64 er]) ∧ Blk w1 (w.heap.size + 1 + 1 + 1 + 1) (ndC y) 46 ∧ But (w.heap.size + 1 + 1 + 1 + 1) w0 w1 ∧
      ((¬ chkP L = 0 ∧ A2 = none ∧ m2 = 0 ∧ c2 = 0 ∧ er = chkP L ∧ y.1.i = 0) ∨ (chkP L = 0 ∧ ¬ fe = 0 ∧ A2 = none ∧ m2 = 0 ∧ c2 = 0 ∧ er = fe ∧ y.1.i = 0) ∨
       (chkP L = 0 ∧ fe = 0 ∧ er = 0 ∧ y.1.i = fx.i ∧ ∃ (k gq : Nat) (L2 : List Nl), fx.i = (k : Nat) + 1 ∧ k ≤ L.length ∧ L2.map (·.1) = insM k fx (L.map (·.1)) ∧ w0.heap.size < gq ∧ ChO w w1 gq A2 m2 c2 L2)) := by
    rcases h1 with ⟨h0, rfl, bb⟩ | ⟨h0, V, gq, A1, c1, L1, V', er, A2, m2, c2, hC, hR, hB, hE⟩
    · exact ⟨_, _, _, _, nl0, rfl, k9.below bb k9.lt, But.of_below bb _, .inl ⟨h0, rfl, rfl, rfl, rfl, rfl⟩⟩
    · have hnm := hC.names
      obtain ⟨hBw, rfl, l, hkn, hok⟩ := hR
      have hgt := hC.gt
      have hB1 : But (w.heap.size + 1 + 1 + 1 + 1) w0 w1 := ⟨hB.os.trans hBw.os, hB.tape.trans hBw.tape, hB.output.trans hBw.output, Nat.le_trans hBw.size hB.size, fun j hj hne => (hB.block j (Nat.lt_of_lt_of_le hj hBw.size) (by omega)).trans (hBw.block j hj hne)⟩
      have hkn1 := hB.blk7 hkn (by omega)
      rcases hE with ⟨he, rfl⟩ | ⟨he, rfl⟩
      · obtain ⟨k, h1, h2, rfl, ho⟩ := hok he
        have hl : L1.length = L.length := by simpa using congrArg List.length hnm
        refine ⟨_, _, _, _, (fx, l), rfl, hkn1, hB1, .inr (.inr ⟨h0, he, rfl, rfl, k, gq, _, h1, by omega, ?_, by omega, ho.but hB (by omega) (by omega)⟩)⟩
        rw [names_ins, hnm]
      · exact ⟨_, _, _, _, (fx, l), rfl, hkn1, hB1, .inr (.inl ⟨h0, he, rfl, rfl, rfl, rfl, HF0.out he⟩)⟩
  have HO := Lib.hid hout
  have k61 := hb1.blk7 k6 (by omega)
  have B1 : Below w.heap.size w w1 := B0.trans (hb1.below _ (by omega) (by omega))
  have s1 : w0.heap.size ≤ w1.heap.size := hb1.size
  clear h1 hout CH hb1 k2 k3 k4 k6 k9 hwa hwb hwc hwd hw0 sa sb sc sd
  obtain ⟨yi, hyi⟩ : ∃ yi, y.1.i = yi := ⟨_, rfl⟩
  rw [hyi] at HO
  have q9 : w1.cell? ⟨w.heap.size + 1 + 1 + 1 + 1, 0, none⟩ = some (.int .i64 yi) := by rw [← hyi]; exact hn1.cell 0
  go_wp2_with fail
  show Code.wp _ _ _ _ (w1.alloc (.cells #[.slice A2 m2 c2] 24))
  have kt : Blk (w1.alloc (.cells #[.slice A2 m2 c2] 24)) w1.heap.size #[.slice A2 m2 c2] 24 := Blk.new w1 _ _
  have bt : Below w1.heap.size w1 (w1.alloc (.cells #[.slice A2 m2 c2] 24)) := (Below.refl _ w1).alloc (Nat.le_refl _) _
  generalize (w1.alloc (.cells #[.slice A2 m2 c2] 24)) = w2 at kt bt ⊢
  have S0 : AdD w1.heap.size (w.heap.size + 1 + 1 + 1 + 1) A2 m2 c2 y w2.drew := ⟨kt.drew, (hn1.below bt hn1.lt).drew⟩
  have k62 := (k61.below bt k61.lt).drew
  have bt2 := bt.drew
  clear kt
  refine region_cutM ?_
  refine wp_region_held_drew (S := AdD w1.heap.size (w.heap.size + 1 + 1 + 1 + 1) A2 m2 c2 y) (by kernel_rfl) S0 (fun _ => ?_)
  generalize w2.drew = w3 at S0 k62 bt2 ⊢
  refine wpAnyH_take (i := 0) (v := .agg #[.slice A2 m2 c2]) rfl (by kernel_rfl) (by kernel_rfl) (by kernel_rfl) (fun _ _ _ h => nomatch h.1) (yieldsIf_blk (by rfl) 24 (.tmp 10) rfl w1.heap.size rfl #[.slice A2 m2 c2] 24 _ (fun _ h => h.k) Tryz.underlying24 rfl rfl) S0 ?_
  try simp only [Act.put, List.getElem_toArray, List.getElem_cons_zero, List.getElem_cons_succ, List.setIfInBounds_toArray, List.set_cons_zero, List.set_cons_succ]
  refine wpAnyH_take (i := 1) (v := .pointer (some ⟨w.heap.size + 1 + 1 + 1 + 1, 0, none⟩)) rfl (by kernel_rfl) (by kernel_rfl) (by kernel_rfl) (fun _ _ _ h => nomatch h.1) (.inl ⟨by rfl, fun V hV => by go_simp⟩) S0 ?_
  try simp only [Act.put, List.getElem_toArray, List.getElem_cons_zero, List.getElem_cons_succ, List.setIfInBounds_toArray, List.set_cons_zero, List.set_cons_succ]
  refine wpAnyH_take (i := 2) (v := .int .i64 yi) rfl (by kernel_rfl) (by kernel_rfl) (by kernel_rfl) (fun _ _ _ h => nomatch h.1) (.inl ⟨by rfl, fun V hV => by have c0 : V.cell? ⟨w.heap.size + 1 + 1 + 1 + 1, 0, none⟩ = some (.int .i64 yi) := hV.y hyi; go_simp⟩) S0 ?_
  try simp only [Act.put, List.getElem_toArray, List.getElem_cons_zero, List.getElem_cons_succ, List.setIfInBounds_toArray, List.set_cons_zero, List.set_cons_succ]
  refine wpAnyH_take (i := 3) (v := .int .i64 er) rfl (by kernel_rfl) (by kernel_rfl) (by kernel_rfl) (fun _ _ _ h => nomatch h.1) (.inl ⟨by rfl, fun V hV => by go_simp⟩) S0 ?_
  try simp only [Act.put, List.getElem_toArray, List.getElem_cons_zero, List.getElem_cons_succ, List.setIfInBounds_toArray, List.set_cons_zero, List.set_cons_succ]
  refine wpAnyH_ready (rs := [4]) (by kernel_rfl) (by simp) ?_
  refine AllReadyH.cons rfl (fun K hK => ?_) AllReadyH.nil
  try simp only [Act.put, List.getElem_toArray, List.getElem_cons_zero, List.getElem_cons_succ, List.setIfInBounds_toArray, List.set_cons_zero, List.set_cons_succ]
  rw [if_pos (by rfl)]
  refine wp_store_blk 24 (.tmp 6) (.tmp 18) rfl (w.heap.size + 1 + 1 + 1) #[.slice none 0 0] #[.slice A2 m2 c2] 24 rfl rfl k62 rfl (po_info A2 m2 c2) (by simp [Value.oneCell']) ?_
  intro w4 k64 n4
  have S4 : AdD w1.heap.size (w.heap.size + 1 + 1 + 1 + 1) A2 m2 c2 y w4 := ⟨n4.blk7 S0.k (by omega), n4.blk7 S0.n (by omega)⟩
  refine hK.out _ _ S4 (fun _ => ?_)
  clear hK K
  try simp only [Act.put, List.getElem_toArray, List.getElem_cons_zero, List.getElem_cons_succ, List.setIfInBounds_toArray, List.set_cons_zero, List.set_cons_succ]
  refine wpAnyH_ready (rs := [5]) (by kernel_rfl) (by simp) ?_
  refine AllReadyH.cons rfl (fun K hK => ?_) AllReadyH.nil
  try simp only [Act.put, List.getElem_toArray, List.getElem_cons_zero, List.getElem_cons_succ, List.setIfInBounds_toArray, List.set_cons_zero, List.set_cons_succ]
  go_simp
  refine hK.out _ _ S4 (fun _ => ?_)
  clear hK K
  try simp only [Act.put, List.getElem_toArray, List.getElem_cons_zero, List.getElem_cons_succ, List.setIfInBounds_toArray, List.set_cons_zero, List.set_cons_succ]
  refine wpAnyH_ready (rs := [6]) (by kernel_rfl) (by simp) ?_
  refine AllReadyH.cons rfl (fun K hK => ?_) AllReadyH.nil
  try simp only [Act.put, List.getElem_toArray, List.getElem_cons_zero, List.getElem_cons_succ, List.setIfInBounds_toArray, List.set_cons_zero, List.set_cons_succ]
  go_simp
  refine hK.out _ _ S4 (fun _ => ?_)
  clear hK K
  try simp only [Act.put, List.getElem_toArray, List.getElem_cons_zero, List.getElem_cons_succ, List.setIfInBounds_toArray, List.set_cons_zero, List.set_cons_succ]
  refine wpAnyH_done (by kernel_rfl) ?_ _
  refine ⟨rfl, ?_⟩
  go_wp2_with fail
  refine bodyPost_ret (results_row_tmp2 rfl _ _ (w.heap.size + 1 + 1 + 1) 24 #[.slice A2 m2 c2] _ rfl k64 Tryz.underlying24 rfl (po_info A2 m2 c2) _ _ rfl rfl) rfl ?_
  have B4 : Below w.heap.size w w4 := (B1.trans (bt2.mono (by omega))).trans (n4.below _ (by omega) (by have := bt2.size; omega))
  refine ⟨B4, ?_⟩
  rcases HO.out with ⟨h0, rfl, rfl, rfl, rfl, hy⟩ | ⟨h0, he, rfl, rfl, rfl, rfl, hy⟩ | ⟨h0, he, rfl, hy, k, gq, L2, h1, h2, h3, hgq, ho⟩
  · exact .inl ⟨h0, by rw [hy]; rfl⟩
  · exact .inr (.inl ⟨h0, he, by rw [hy]; rfl⟩)
  · have hr4 : No w4 (gq + 1) A2 m2 c2 L2 := (ho.row.below bt2 (Nat.le_refl _)).but n4 (by omega) (fun x hx _ a ha => by have := ho.pr x hx a ha; omega)
    obtain rfl := hr4.len
    exact .inr (.inr ⟨h0, he, k, A2, c2, L2, h1, h2, h3, hr4.down (by omega), by rw [hy]; rfl⟩)
end Go.Proofs.YtelfdpcenplhjaaGreatDoor
