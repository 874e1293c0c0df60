/-
  Plain: which schedules may be, by their members.
-/
import Derived.Test.YtolalbpjaebfdaaQScLe
import Derived.Test.YtolalbpjaebfdaaQZdf
namespace Go.Proofs.Ytolalbpjaebfdaa
open Go.RowKit Go.Shelf
set_option linter.unusedVariables false
set_option linter.unusedSimpArgs false
theorem Zo.blkOf {w : World} {B m c : Nat} {A : Option Addr} {l : List Int} (h : Zo w B A m c l) {a : Addr} (e : A = some a) : (Value.slice A m c).ownBlock = some a.block ∧ ∃ cur, Blk w a.block cur 3 := by
  rcases h.form with ⟨e2, _⟩ | ⟨g, e2, _, _, cur, hh, _⟩
  · rw [e] at e2; cases e2
  · rw [e] at e2; cases e2
    subst e
    exact ⟨rfl, cur, ⟨hh⟩⟩
theorem mem_set_un {L : List Kw} {k : Nat} {y z : Kw} (hu : UpK L) (hk : k < L.length) (hz : z ∈ L.set k y) : z = y ∨ (z ∈ L ∧ z.1.n ≠ (L.getD k kw0).1.n) := by
  obtain ⟨i, hi, rfl⟩ := List.getElem_of_mem hz
  have hi2 : i < L.length := by rw [List.length_set] at hi; exact hi
  rw [List.getElem_set]
  split
  · exact .inl rfl
  · rename_i hne
    refine .inr ⟨List.getElem_mem _, fun e => ?_⟩
    rw [show L.getD k kw0 = L[k] by simp [List.getD, hk]] at e
    have hl : (numsK L).length = L.length := by simp [numsK]
    have h1 := List.pairwise_iff_getElem.1 hu
    rcases Nat.lt_trichotomy i k with h | h | h
    · have := h1 i k (by omega) (by omega) h
      simp only [numsK, List.getElem_map, numK] at this
      omega
    · exact hne h.symm
    · have := h1 k i (by omega) (by omega) h
      simp only [numsK, List.getElem_map, numK] at this
      omega
theorem Tz.away {V V' : World} {B g : Nat} {x : Kw} (h : Tz V B x) (n : But g V V') (hne : ∀ a, x.2.1 = some a → a.block ≠ g) : Tz V' B x := by
  refine ⟨fun j hj => ?_, h.le, h.fro, fun a e => ?_⟩
  · obtain ⟨b, off, e, hb, hc⟩ := h.ri j hj
    exact ⟨b, off, e, Nat.lt_of_lt_of_le hb n.size, cell_but n hc (hne _ e)⟩
  · obtain ⟨cur, hb⟩ := h.ty a e
    exact ⟨cur, n.blk7 hb (hne a e)⟩
def Apart (L : List Kw) (n : Int) (x : Kw) : Prop := ∀ y ∈ L, y.1.n ≠ n → ∀ a, y.2.1 = some a → ownQ x ≠ some a.block
def leaveN (K : List Kn) (i n : Int) : List Kn := if (K.map (·.n)).contains n = true then K.set (lessP (K.map (·.n)) n) ⟨n, (K.getD (lessP (K.map (·.n)) n) kn0).o, (K.getD (lessP (K.map (·.n)) n) kn0).q.filter (fun z => !(z == i))⟩ else K
set_option maxRecDepth 100000 in
theorem leave1_any (r : Rn) (gr : Nat) (z : Int) (w : World) (hg : Blk w gr (rnC r) 52) :
    Calls Try.prog 77 #[.int .i64 z, .pointer (some ⟨gr, 0, none⟩)] w fun e w' => e = .returned (.bool (z == r.i)) ∧ Below w.heap.size w w' := by
  have B0 := Below.refl w.heap.size w
  have q0 : w.cell? ⟨gr, 0, none⟩ = some (.int .i64 r.i) := hg.cell 0
  clear hg
  go_enter Try.func77, Try.ntmps77
  go_wp2_with fail
  go_ret
  exact ⟨rfl, B0⟩
set_option maxRecDepth 100000 in
set_option maxHeartbeats 8000000 in
theorem leave_sc (V : World) (B g : Nat) (A1 : Option Addr) (m1 c1 : Nat) (R : List Rn) (A2 : Option Addr) (m2 c2 : Nat) (L : List Kw) (r : Rn) (own : OwnT V B A1 m1 c1 R A2 m2 c2 L) (kg : Blk V g (scC A1 m1 c1 A2 m2 c2) 25) (hBg : B ≤ g) (ok : Okd R (L.map (·.1)))
    (hz : (numsK L).contains r.n = true → Zo V B (L.getD (lessP (numsK L) r.n) kw0).2.1 (L.getD (lessP (numsK L) r.n) kw0).1.q.length (L.getD (lessP (numsK L) r.n) kw0).2.2 (L.getD (lessP (numsK L) r.n) kw0).1.q ∧ Apart L r.n (L.getD (lessP (numsK L) r.n) kw0)) :
    Calls Try.prog 44 #[.pointer (some ⟨g, 0, none⟩), .agg (rnC r)] V fun e V' => e = .returned (.tuple #[]) ∧ ∃ L', OwnT V' B A1 m1 c1 R A2 m2 c2 L' ∧ Blk V' g (scC A1 m1 c1 A2 m2 c2) 25 ∧ L'.map (·.1) = leaveN (L.map (·.1)) r.i r.n ∧ Below B V V' := by
  have hgl : g < V.heap.size := kg.lt
  have hBV : B ≤ V.heap.size := Nat.le_trans hBg (Nat.le_of_lt hgl)
  have uk : UpK L := by show (numsK L).Pairwise (· < ·); rw [numsK_names]; exact ok.uk
  have kr := Blk.new V (rnC r) 52
  have B0 := (Below.refl V.heap.size V).alloc (Nat.le_refl _) (.cells (rnC r) 52)
  obtain ⟨W0, hW0⟩ : ∃ W0, W0 = V.alloc (.cells (rnC r) 52) := ⟨_, rfl⟩
  rw [← hW0] at kr B0
  have own0 := own.below B0
  have kg0 := kg.below B0 hgl
  have hgr := kr.lt
  have HD := Lib.hid (fun (V' : World) (hV : Below W0.heap.size W0 V') => held_sc r.n ((own0.sc ok).on hV) uk)
  have HLF := Lib.hid (fun (h : (numsK L).contains r.n = true) => lockF_some uk h)
  have HZ := Lib.hid hz
  have HOK := Lib.hid ok
  unfold leaveN
  rw [← numsK_names]
  obtain ⟨ct, hct⟩ : ∃ ct, (numsK L).contains r.n = ct := ⟨_, rfl⟩
  rw [hct] at HD HLF HZ ⊢
  generalize lessP (numsK L) r.n = k at HD HLF HZ ⊢
  obtain ⟨K', hK'⟩ : ∃ K' : List Kn, K' = (if ct = true then (L.map (·.1)).set k ⟨r.n, ((L.map (·.1)).getD k kn0).o, ((L.map (·.1)).getD k kn0).q.filter (fun z => !(z == r.i))⟩ else L.map (·.1)) := ⟨_, rfl⟩
  rw [← hK']
  have HKK := Lib.hid hK'
  clear uk ok hz hct own kg hK'
  unfold scV at HD
  go_enter Try.func44, Try.ntmps44
  go_wp2_with fail
  rw [← hW0]
  have HW := Lib.hid hW0
  clear hW0
  try simp only [Act.put]
  refine region_cutP ?_
  have Jd : Below W0.heap.size W0 W0.drew := (Below.refl _ _).drew
  refine wp_region_held_drew (S := (fun V' => Below W0.heap.size W0 V')) (by kernel_rfl) Jd (fun _ => ?_)
  refine wpAnyH_take (i := 0) (v := .pointer (some ⟨g, 0, none⟩)) rfl (by kernel_rfl) (by kernel_rfl) (by kernel_rfl) (fun _ _ _ h => nomatch h.1) (.inl ⟨by rfl, fun V_ hV => by go_simp⟩) Jd ?_
  try simp only [Act.put, List.getElem_toArray, List.getElem_cons_zero, List.getElem_cons_succ, List.setIfInBounds_toArray, List.set_cons_zero, List.set_cons_succ]
  refine wpAnyH_take (i := 3) (v := .pointer (some ⟨V.heap.size, 2, none⟩)) rfl (by kernel_rfl) (by kernel_rfl) (by kernel_rfl) (fun _ _ _ h => nomatch h.1) (.inl ⟨by rfl, fun V_ hV => by go_simp⟩) Jd ?_
  try simp only [Act.put, List.getElem_toArray, List.getElem_cons_zero, List.getElem_cons_succ, List.setIfInBounds_toArray, List.set_cons_zero, List.set_cons_succ]
  refine wpAnyH_take (i := 1) (v := .pointer (some ⟨g, 0, none⟩)) rfl (by kernel_rfl) (by kernel_rfl) (by kernel_rfl) (fun _ _ _ h => nomatch h.1) (.inl ⟨by rfl, fun V_ hV => by go_simp⟩) Jd ?_
  try simp only [Act.put, List.getElem_toArray, List.getElem_cons_zero, List.getElem_cons_succ, List.setIfInBounds_toArray, List.set_cons_zero, List.set_cons_succ]
  refine wpAnyH_take (i := 4) (v := .int .i64 r.n) rfl (by kernel_rfl) (by kernel_rfl) (by kernel_rfl) (fun _ _ _ h => nomatch h.1) (.inl ⟨by rfl, fun V_ hV => by have c2 : V_.cell? ⟨V.heap.size, 2, none⟩ = some (.int .i64 r.n) := (kr.below hV kr.lt).cell 2; go_simp⟩) Jd ?_
  try simp only [Act.put, List.getElem_toArray, List.getElem_cons_zero, List.getElem_cons_succ, List.setIfInBounds_toArray, List.set_cons_zero, List.set_cons_succ]
  refine wpAnyH_take (i := 2) (v := .agg (scC A1 m1 c1 A2 m2 c2)) rfl (by kernel_rfl) (by kernel_rfl) (by kernel_rfl) (fun _ _ _ h => nomatch h.1) (yieldsIf_blk (by rfl) 25 (.tmp 9) rfl g rfl (scC A1 m1 c1 A2 m2 c2) 25 _ (fun _ h => kg0.below h kg0.lt) Try.underlying25 rfl (sc_inf _ _ _ _ _ _)) Jd ?_
  try simp only [Act.put, List.getElem_toArray, List.getElem_cons_zero, List.getElem_cons_succ, List.setIfInBounds_toArray, List.set_cons_zero, List.set_cons_succ]
  refine wpAnyH_ready (rs := [5]) (by kernel_rfl) (by simp) ?_
  refine AllReadyH.cons rfl (fun K hK => ?_) AllReadyH.nil
  try simp only [Act.put, List.getElem_toArray, List.getElem_cons_zero, List.getElem_cons_succ, List.setIfInBounds_toArray, List.set_cons_zero, List.set_cons_succ]
  go_simp
  refine (HD.out _ Jd).mono ?_
  rintro e W ⟨rfl, bb⟩
  go_wp2_with fail
  have Jd := Jd.trans (bb.mono Jd.size)
  clear bb
  refine hK.out _ _ Jd (fun _ => ?_)
  clear hK K
  try simp only [Act.put, List.getElem_toArray, List.getElem_cons_zero, List.getElem_cons_succ, List.setIfInBounds_toArray, List.set_cons_zero, List.set_cons_succ]
  refine wpAnyH_take (i := 6) (v := .tuple #[.int .i64 k, .bool ct]) rfl (by kernel_rfl) (by kernel_rfl) (by kernel_rfl) (fun _ _ _ h => nomatch h.1) (.inl ⟨by rfl, fun V_ hV => by go_simp⟩) Jd ?_
  try simp only [Act.put, List.getElem_toArray, List.getElem_cons_zero, List.getElem_cons_succ, List.setIfInBounds_toArray, List.set_cons_zero, List.set_cons_succ]
  refine wpAnyH_take (i := 7) (v := .int .i64 k) rfl (by kernel_rfl) (by kernel_rfl) (by kernel_rfl) (fun _ _ _ h => nomatch h.1) (.inl ⟨by rfl, fun V_ hV => by go_simp⟩) Jd ?_
  try simp only [Act.put, List.getElem_toArray, List.getElem_cons_zero, List.getElem_cons_succ, List.setIfInBounds_toArray, List.set_cons_zero, List.set_cons_succ]
  refine wpAnyH_take (i := 8) (v := .bool ct) rfl (by kernel_rfl) (by kernel_rfl) (by kernel_rfl) (fun _ _ _ h => nomatch h.1) (.inl ⟨by rfl, fun V_ hV => by go_simp⟩) Jd ?_
  try simp only [Act.put, List.getElem_toArray, List.getElem_cons_zero, List.getElem_cons_succ, List.setIfInBounds_toArray, List.set_cons_zero, List.set_cons_succ]
  refine wpAnyH_take (i := 9) (v := .int .i64 k) rfl (by kernel_rfl) (by kernel_rfl) (by kernel_rfl) (fun _ _ _ h => nomatch h.1) (.inl ⟨by rfl, fun V_ hV => by go_simp⟩) Jd ?_
  try simp only [Act.put, List.getElem_toArray, List.getElem_cons_zero, List.getElem_cons_succ, List.setIfInBounds_toArray, List.set_cons_zero, List.set_cons_succ]
  refine wpAnyH_take (i := 10) (v := .bool ct) rfl (by kernel_rfl) (by kernel_rfl) (by kernel_rfl) (fun _ _ _ h => nomatch h.1) (.inl ⟨by rfl, fun V_ hV => by go_simp⟩) Jd ?_
  try simp only [Act.put, List.getElem_toArray, List.getElem_cons_zero, List.getElem_cons_succ, List.setIfInBounds_toArray, List.set_cons_zero, List.set_cons_succ]
  refine wpAnyH_done (by kernel_rfl) ?_ _
  refine ⟨rfl, ?_⟩
  have b1 := B0.trans (Jd.mono B0.size)
  have own1 := own0.below Jd
  have kg1 := kg0.below Jd kg0.lt
  have kr1 := kr.below Jd kr.lt
  clear HD own0 kg0 kr Jd
  cases ct
  · go_wp2_with fail
    refine bodyPost_end (results_none rfl _ _ _) rfl ?_
    exact ⟨rfl, L, own1, kg1, by rw [HKK.out, if_neg (by simp)], b1.mono hBV⟩
  · obtain ⟨hkl, hxn, _⟩ := HLF.out rfl
    obtain ⟨zx, hap⟩ := HZ.out rfl
    have hxm : L.getD k kw0 ∈ L := by
      rw [show L.getD k kw0 = L[k] by simp [List.getD, hkl]]
      exact List.getElem_mem _
    have hfst := fst_getD L k
    obtain ⟨gK, rfl, hBK, hKl⟩ := own1.rl.at0 (by omega)
    have hm2 := own1.rl.len
    have hkm : (k : Int) < (m2 : Int) := by omega
    obtain ⟨bK, oK, eK, _, hcK⟩ := own1.rl.rs k hkl
    cases eK
    rw [Nat.zero_add] at hcK
    obtain ⟨curK, kK⟩ := roK_blk own1.rl (g := gK) rfl
    obtain ⟨x, hx⟩ : ∃ x, L.getD k kw0 = x := ⟨_, rfl⟩
    rw [hx] at hcK hxn hap hxm zx hfst
    have zx1 := zx.below b1 (Nat.le_refl _)
    have q1 : W.cell? ⟨g, 1, none⟩ = some (.slice (some ⟨gK, 0, none⟩) m2 c2) := kg1.cell 1
    have q2 : W.cell? ⟨gK, k * 3 + 2, none⟩ = some (.slice x.2.1 x.1.q.length x.2.2) := hcK 2 _ rfl
    
    obtain ⟨gq, hgq, hgqn, hQA, hgB⟩ : ∃ gq, (x.2.1 = none ∨ x.2.1 = some ⟨gq, 0, none⟩) ∧ (∀ g' cs t, Blk W g' cs t → t ≠ 3 → g' ≠ gq) ∧ (∀ y ∈ L, y.1.n ≠ r.n → ∀ a, y.2.1 = some a → a.block ≠ gq) ∧ B ≤ gq := by
      rcases zx1.form with ⟨e, _⟩ | ⟨g', e, hb, hl, cur, hh, _⟩
      · exact ⟨W.heap.size, .inl e, fun g' cs t hk _ e => by have := hk.lt; omega, fun y hy hne a ea e2 => by obtain ⟨cur, hb⟩ := (own1.q y hy).ty a ea; have := hb.lt; omega, Nat.le_trans hBV b1.size⟩
      · exact ⟨g', .inr e, fun g2 cs t hk hne e2 => (by subst e2; exact hne (blk_kind hk ⟨hh⟩)), fun y hy hne a ea e2 => hap y hy hne a ea (by unfold ownQ; rw [e, e2]; rfl), hb⟩
    have hBW : B ≤ W.heap.size := Nat.le_trans hBV b1.size
    have HDL := Lib.hid (delZ_any 77 #[.pointer (some ⟨V.heap.size, 0, none⟩)] (fun z => z == r.i) B gq x.1.q.length x.2.2 x.2.1 x.1.q W hgq zx1 (HOK.out.q x.1 (List.mem_map.2 ⟨x, hxm, rfl⟩)) (enters_of Try.func77 (by kernel_rfl) rfl) (fun z W' hW' => leave1_any r V.heap.size z W' (hW'.blk7 kr1 (hgqn _ _ _ kr1 (by decide)))))
    have HGN := Lib.hid hgqn
    have HQA := Lib.hid hQA
    have HX := Lib.hid (And.intro hx (And.intro hxn (And.intro hkl hfst)))
    have HOWN := Lib.hid own1
    have HB1 := Lib.hid (b1.mono hBV)
    have HLE := Lib.hid zx1.cap
    clear hgq hgqn hQA hap hxm zx zx1 hx hxn hfst hm2 hcK HZ own1 b1
    go_wp2_with (first
      | (refine HDL.out.mono ?_
         clear HDL
         rintro e W2 ⟨m3, rfl, zx2, n2⟩
         have hm3 := zx2.len
         have own1 := HOWN.out
         have kg2 := n2.blk7 kg1 (HGN.out _ _ _ kg1 (by decide))
         have kK2 := n2.blk7 kK (HGN.out _ _ _ kK (by decide))
         have rl2 := own1.rl.but n2 (fun g' e => by cases e; exact (HGN.out _ _ _ kK (by decide)).symm)
         have rr2 : RoR W2 B A1 m1 c1 R := own1.rr.but n2 (fun g' e => by obtain ⟨cur, h9⟩ := roR_blk own1.rr (g := g') (by rw [e]; rfl); exact (HGN.out _ _ _ h9 (by decide)).symm)
         have q22 : W2.cell? ⟨gK, k * 3 + 2, none⟩ = some (.slice x.2.1 x.1.q.length x.2.2) := cell_but n2 q2 (HGN.out _ _ _ kK (by decide))
         have f22 := kK2.frozen (k * 3 + 2)
         have tz2 : ∀ y ∈ L, y.1.n ≠ r.n → Tz W2 B y := fun y hy hne => (own1.q y hy).away n2 (HQA.out y hy hne)
         have hy : (kwC ((⟨x.1.n, x.1.o, x.1.q.filter (fun z => !(z == r.i))⟩, (x.2.1, x.2.2)) : Kw)).toList = (kwC (L.getD k kw0)).toList.set 2 (.slice x.2.1 m3 x.2.2) := by rw [HX.out.1, hm3]; rfl
         have rl3 := rl2.cellSet hkl (by decide) hy
         have n3 : But gK W2 (W2.setCell ⟨gK, k * 3 + 2, none⟩ (.slice x.2.1 m3 x.2.2)) := (But.refl gK W2).setCell (p := ⟨gK, k * 3 + 2, none⟩) (.inl rfl) _
         have kd := fun {e : TypeId} (he : 48 ≠ e) (g' : Nat) (e1 : some gK = some g') => (show ∃ cs t, Blk W2 g' cs t ∧ t ≠ e by cases e1; exact ⟨_, _, kK2, he⟩)
         have rr3 := own_kind rr2 (grown_but n3) (fun g' e => kd (by decide) g' e)
         have kg3 := kg2.cellKeep (n3.block g kg2.lt (fun e => by subst e; exact absurd (blk_kind kg2 kK2) (by decide)))
         have tz3 : ∀ y ∈ L.set k ((⟨x.1.n, x.1.o, x.1.q.filter (fun z => !(z == r.i))⟩, (x.2.1, x.2.2)) : Kw), Tz (W2.setCell ⟨gK, k * 3 + 2, none⟩ (.slice x.2.1 m3 x.2.2)) B y := fun y hy => by
           refine Tz.kind (V := W2) ?_ (grown_but n3) (fun g' e => kd (by decide) g' e)
           rcases mem_set_un (by show (numsK L).Pairwise (· < ·); rw [numsK_names]; exact HOK.out.uk) hkl hy with rfl | ⟨h9, h8⟩
           · exact zo_tz (by rw [← hm3]; exact zx2)
           · exact tz2 y h9 (by rw [HX.out.1, HX.out.2.1] at h8; exact h8)
         have HF := Lib.hid (show OwnT _ B A1 m1 c1 R (some ⟨gK, 0, none⟩) m2 c2 (L.set k ((⟨x.1.n, x.1.o, x.1.q.filter (fun z => !(z == r.i))⟩, (x.2.1, x.2.2)) : Kw)) ∧ Blk _ g (scC A1 m1 c1 (some ⟨gK, 0, none⟩) m2 c2) 25 ∧ Below B V _ from ⟨⟨rr3, rl3, tz3⟩, kg3, (HB1.out.trans (n2.below B hgB hBW)).trans (n3.below B hBK (Nat.le_trans hBW n2.size))⟩)
         clear zx2 n2 hm3 own1 kg2 kK2 rl2 rr2 tz2 hy rl3 n3 kd rr3 kg3 tz3))
    refine bodyPost_end (results_none rfl _ _ _) rfl ?_
    exact ⟨rfl, _, HF.out.1, HF.out.2.1, by rw [HKK.out, if_pos (by trivial), List.map_set, HX.out.2.2.2, HX.out.2.1], HF.out.2.2⟩
end Go.Proofs.Ytolalbpjaebfdaa
namespace Go.Proofs.Ytolalbpjaebfdaa
open Go.RowKit Go.Shelf
set_option linter.unusedVariables false
set_option linter.unusedSimpArgs false
section
variable {α : Type} (num : α → Int)
theorem uniq {L : List α} (hl : (L.map num).Pairwise (· < ·)) {x y : α} (hx : x ∈ L) (hy : y ∈ L) (h : num x = num y) : x = y := by
  induction L with
  | nil => cases hx
  | cons z L ih =>
    rw [List.map_cons, List.pairwise_cons] at hl
    have h1 : ∀ w ∈ L, num z < num w := fun w hw => hl.1 _ (List.mem_map.2 ⟨w, hw, rfl⟩)
    rcases List.mem_cons.1 hx with ex | hx2
    · rcases List.mem_cons.1 hy with ey | hy2
      · rw [ex, ey]
      · have := h1 y hy2; rw [ex] at h; omega
    · rcases List.mem_cons.1 hy with ey | hy2
      · have := h1 x hx2; rw [ey] at h; omega
      · exact ih hl.2 hx2 hy2
theorem at_num {L : List α} (hl : (L.map num).Pairwise (· < ·)) (d : α) {n : Int} (hc : (L.map num).contains n = true) : lessP (L.map num) n < L.length ∧ num (L.getD (lessP (L.map num) n) d) = n ∧ L.getD (lessP (L.map num) n) d ∈ L := by
  obtain ⟨h1, h2⟩ := less_mem hl hc
  rw [List.length_map] at h1
  refine ⟨h1, ?_, by rw [show L.getD (lessP (L.map num) n) d = L[lessP (L.map num) n] by simp [List.getD, h1]]; exact List.getElem_mem _⟩
  rw [show (L.map num).getD (lessP (L.map num) n) 0 = num (L.getD (lessP (L.map num) n) d) by simp [List.getD, h1]] at h2
  exact h2
theorem at_mem {L : List α} (hl : (L.map num).Pairwise (· < ·)) (d : α) {x : α} (hx : x ∈ L) : L.getD (lessP (L.map num) (num x)) d = x := by
  obtain ⟨_, h2, h3⟩ := at_num num hl d (n := num x) (List.contains_iff_mem.2 (List.mem_map.2 ⟨x, hx, rfl⟩))
  exact uniq num hl h3 hx h2
theorem rise_set {L : List α} (hl : (L.map num).Pairwise (· < ·)) (d : α) {x : α} (hc : (L.map num).contains (num x) = true) : ((L.set (lessP (L.map num) (num x)) x).map num).Pairwise (· < ·) ∧ ∀ z, z ∈ L.set (lessP (L.map num) (num x)) x ↔ z = x ∨ (z ∈ L ∧ num z ≠ num x) := by
  obtain ⟨h1, h2, _⟩ := at_num num hl d hc
  generalize lessP (L.map num) (num x) = k at h1 h2 ⊢
  have e : (L.set k x).map num = L.map num := by
    rw [List.map_set]
    have h3 := set_same 0 (k := k) (L := L.map num) (by simpa using h1)
    rw [show (L.map num).getD k 0 = num (L.getD k d) by simp [List.getD, h1], h2] at h3
    exact h3
  refine ⟨by rw [e]; exact hl, fun z => ⟨fun hz => ?_, fun hz => ?_⟩⟩
  · by_cases hzx : z = x
    · exact .inl hzx
    · rcases mem_set_orK hz with h | h
      · refine .inr ⟨h, fun hn => ?_⟩
        obtain ⟨i, hi, rfl⟩ := List.getElem_of_mem hz
        have hx2 : x ∈ L.set k x := List.mem_of_getElem? (i := k) (by rw [List.getElem?_set, if_pos rfl, if_pos h1])
        exact hzx (uniq num (by rw [e]; exact hl) hz hx2 hn)
      · exact absurd h hzx
  · rcases hz with rfl | ⟨hz, hne⟩
    · exact List.mem_of_getElem? (i := k) (by rw [List.getElem?_set, if_pos rfl, if_pos h1])
    · exact mem_set_ne (d := d) hz (fun e => hne (by rw [e, h2]))
theorem rise_del {L : List α} (hl : (L.map num).Pairwise (· < ·)) {n : Int} (hc : (L.map num).contains n = true) : ((delL (lessP (L.map num) n) L).map num).Pairwise (· < ·) ∧ ∀ z, z ∈ delL (lessP (L.map num) n) L ↔ (z ∈ L ∧ num z ≠ n) := by
  rw [← filt_del num n hl hc]
  exact ⟨hl.sublist (List.filter_sublist.map _), fun z => by rw [List.mem_filter]; simp⟩
end
theorem give_mem {R : List Rn} {K : List Kn} {n : Int} (ok : Okd R K) (th : Thr R K) (x : Kn) (hx : x ∈ K) (hn : x.n = n) :
    ((∀ h t, x.q = h :: t → giveN R K n = (R.set (lessP (numsR R) h) ⟨h, 0, 0⟩, K.set (lessP (K.map (·.n)) n) ⟨n, h, t⟩)) ∧ (x.q = [] → giveN R K n = (R, delL (lessP (K.map (·.n)) n) K))) := by
  have h1 := at_mem (fun y : Kn => y.n) ok.uk kn0 hx
  rw [hn] at h1
  refine ⟨fun h t hq => ?_, fun hq => ?_⟩
  · unfold giveN
    rw [h1, hq, hn]
  · unfold giveN
    rw [h1, hq]
def giveAll : List Rn → List Kn → List Int → List Rn × List Kn
  | R, K, [] => (R, K)
  | R, K, n :: l => giveAll (giveN R K n).1 (giveN R K n).2 l
theorem giveAll_snoc : ∀ (l : List Int) (R : List Rn) (K : List Kn) (n : Int), giveAll R K (l ++ [n]) = giveN (giveAll R K l).1 (giveAll R K l).2 n
  | [], R, K, n => rfl
  | m :: l, R, K, n => by
    rw [List.cons_append, giveAll, giveAll, giveAll_snoc l]
structure EndI (R : List Rn) (K : List Kn) (id : Int) (l : List Int) : Prop where
  ok : Okd R K
  th : Thr R K
  nd : l.Nodup
  on : ∀ n ∈ l, ∃ x ∈ K, x.n = n ∧ x.o = id ∧ id ∉ x.q
theorem EndI.has {R : List Rn} {K : List Kn} {id : Int} {l : List Int} (h : EndI R K id l) {n : Int} (hn : n ∈ l) : (K.map (·.n)).contains n = true := by
  obtain ⟨x, hx, e, _⟩ := h.on n hn
  exact List.contains_iff_mem.2 (List.mem_map.2 ⟨x, hx, e⟩)
theorem EndI.step {R : List Rn} {K : List Kn} {id n : Int} {l : List Int} (h : EndI R K id (n :: l)) : EndI (giveN R K n).1 (giveN R K n).2 id l ∧ numsR (giveN R K n).1 = numsR R ∧ (giveN R K n).1.length = R.length ∧ (∀ k, (R.getD k rn0).i = id → k < R.length → (giveN R K n).1.getD k rn0 = R.getD k rn0) ∧ ∀ x ∈ K, x.n ≠ n → x ∈ (giveN R K n).2 := by
  obtain ⟨x, hx, hxn, hxo, hxq⟩ := h.on n (List.mem_cons_self ..)
  have hc := h.has (List.mem_cons_self ..)
  obtain ⟨ok', th'⟩ := okd_give h.ok h.th hc
  obtain ⟨g1, g2⟩ := give_mem h.ok h.th x hx hxn
  have hoth : ∀ y ∈ K, y.n ≠ n → y ∈ (giveN R K n).2 := fun y hy hne => by
    rcases hq : x.q with _ | ⟨hd, t⟩
    · rw [g2 hq]
      exact ((rise_del (fun y : Kn => y.n) h.ok.uk hc).2 y).2 ⟨hy, hne⟩
    · rw [g1 hd t hq]
      exact ((rise_set (fun y : Kn => y.n) h.ok.uk kn0 (x := ⟨n, hd, t⟩) hc).2 y).2 (.inr ⟨hy, hne⟩)
  have hnd := List.nodup_cons.1 h.nd
  refine ⟨⟨ok', th', hnd.2, fun m hm => ?_⟩, ?_, ?_, ?_, hoth⟩
  · obtain ⟨y, hy, hyn, hyo⟩ := h.on m (List.mem_cons_of_mem _ hm)
    exact ⟨y, hoth y hy (fun e => hnd.1 (by rw [← e, hyn]; exact hm)), hyn, hyo⟩
  all_goals
    rcases hq : x.q with _ | ⟨hd, t⟩
    · rw [g2 hq]
      try (first | rfl | exact fun k _ _ => rfl)
    · rw [g1 hd t hq]
      have hh : (numsR R).contains hd = true := h.th.1 x hx hd (by rw [hq]; exact List.mem_cons_self ..)
      obtain ⟨r1, r2, _⟩ := runF_some h.ok.ur hh
      first
      | exact List.length_set
      | (unfold numsR
         rw [List.map_set]
         have h3 := set_same 0 (k := lessP (R.map numR) hd) (L := R.map numR) (by rw [List.length_map]; exact r1)
         have r1' : lessP (R.map numR) hd < R.length := r1
         rw [show (R.map numR).getD (lessP (R.map numR) hd) 0 = (R.getD (lessP (R.map numR) hd) rn0).i by simp [List.getD, r1', numR], show (R.getD (lessP (R.map numR) hd) rn0).i = hd from r2] at h3
         exact h3)
      | (intro k hk hkl
         rw [set_getD _ _ r1, if_neg]
         intro e
         rw [e, r2] at hk
         exact hxq (by rw [hq, ← hk]; exact List.mem_cons_self ..))
theorem EndI.all {id : Int} : ∀ {l : List Int} {R : List Rn} {K : List Kn}, EndI R K id l → EndI (giveAll R K l).1 (giveAll R K l).2 id [] ∧ numsR (giveAll R K l).1 = numsR R
  | [], R, K, h => ⟨h, rfl⟩
  | n :: l, R, K, h => by
    have h1 := h.step
    have h2 := EndI.all h1.1
    exact ⟨h2.1, h2.2.trans h1.2.1⟩
end Go.Proofs.Ytolalbpjaebfdaa
namespace Go.Proofs.Ytolalbpjaebfdaa
open Go.RowKit Go.Shelf
set_option linter.unusedVariables false
set_option linter.unusedSimpArgs false
theorem riseT_of {t : Int} : ∀ {l : List Int} {p : Int}, l.Pairwise (· < ·) → (∀ x ∈ l, p < x ∧ x ≤ t) → riseT t p l = true
  | [], p, _, _ => rfl
  | x :: l, p, hu, h => by
    rw [List.pairwise_cons] at hu
    obtain ⟨h1, h2⟩ := h x (List.mem_cons_self ..)
    rw [riseT, decide_eq_true h1, decide_eq_true h2, riseT_of hu.2 (fun z hz => ⟨hu.1 z hz, (h z (List.mem_cons_of_mem _ hz)).2⟩)]
    rfl
structure Good (R : List Rn) (K : List Kn) : Prop where
  len : R.length ≤ 8
  ur : UpR R
  rb : ∀ x ∈ R, 1 ≤ x.i ∧ x.i ≤ 20
  uk : (K.map (·.n)).Pairwise (· < ·)
  kb : ∀ y ∈ K, 1 ≤ y.n ∧ y.n ≤ 40
  st : ∀ x ∈ R, 0 ≤ x.s ∧ x.s ≤ 2 ∧ (x.s ≠ 1 → x.n = 0)
  ow : ∀ y ∈ K, ∃ x ∈ R, x.i = y.o ∧ x.s ≠ 2
  oq : ∀ y ∈ K, y.o ∉ y.q
  nd : ∀ y ∈ K, y.q.Nodup
  qs : ∀ y ∈ K, ∀ i ∈ y.q, (⟨i, 1, y.n⟩ : Rn) ∈ R
  wt : ∀ x ∈ R, x.s = 1 → ∃ y ∈ K, y.n = x.n ∧ x.i ∈ y.q
theorem uniqR {R : List Rn} (hu : UpR R) {x y : Rn} (hx : x ∈ R) (hy : y ∈ R) (h : x.i = y.i) : x = y := uniq numR hu hx hy h
theorem lives_iff {R : List Rn} (hu : UpR R) (id : Int) : livesB R id = true ↔ ∃ x ∈ R, x.i = id ∧ x.s ≠ 2 := by
  unfold livesB
  constructor
  · intro h
    cases hr : runF R id with
    | none => rw [hr] at h; cases h
    | some x =>
      rw [hr] at h
      obtain ⟨h1, h2⟩ := runF_is hr
      exact ⟨x, h1, h2, by simpa using h⟩
  · rintro ⟨x, hx, rfl, h2⟩
    rw [runF_mem hu hx]
    simpa using h2
theorem lockQ_iff {R : List Rn} (hu : UpR R) (y : Kw) : lockQ R y = true ↔ (∀ i ∈ y.1.q, (⟨i, 1, y.1.n⟩ : Rn) ∈ R) ∧ y.1.q.Nodup := by
  unfold lockQ
  rw [qB_iff]
  refine and_congr_left fun _ => forall_congr' fun i => forall_congr' fun hi => ?_
  rw [wfB_iff]
  constructor
  · rintro ⟨h, _⟩
    exact (runF_is h).1
  · intro h
    exact ⟨runF_mem hu h, fun h => by cases h⟩
theorem mem_waitsL {R : List Rn} {i : Int} : i ∈ waitsL R ↔ ∃ x ∈ R, x.s = 1 ∧ x.i = i := by
  unfold waitsL
  rw [List.mem_map]
  constructor
  · rintro ⟨x, hx, rfl⟩
    rw [List.mem_filter] at hx
    exact ⟨x, hx.1, by simpa [waitB] using hx.2, rfl⟩
  · rintro ⟨x, hx, h1, rfl⟩
    exact ⟨x, List.mem_filter.2 ⟨hx, by simpa [waitB] using h1⟩, rfl⟩
theorem allQ_nodup {R : List Rn} {L : List Kw} (hu : UpR R) (uk : (numsK L).Pairwise (· < ·)) (h1 : ∀ y ∈ L, ∀ i ∈ y.1.q, (⟨i, 1, y.1.n⟩ : Rn) ∈ R) (h2 : ∀ y ∈ L, y.1.q.Nodup) : (allQ L).Nodup := by
  unfold allQ
  induction L with
  | nil => exact List.nodup_nil
  | cons y L ih =>
    have uk' : (y.1.n :: numsK L).Pairwise (· < ·) := uk
    rw [List.pairwise_cons] at uk'
    rw [List.flatMap_cons, List.nodup_append]
    refine ⟨h2 y (List.mem_cons_self ..), ih uk'.2 (fun z hz => h1 z (List.mem_cons_of_mem _ hz)) (fun z hz => h2 z (List.mem_cons_of_mem _ hz)), fun a ha b hb e => ?_⟩
    subst e
    obtain ⟨z, hz, ha2⟩ := List.mem_flatMap.1 hb
    have e1 := uniqR hu (h1 y (List.mem_cons_self ..) a ha) (h1 z (List.mem_cons_of_mem _ hz) a ha2) rfl
    have e2 : y.1.n = z.1.n := congrArg Rn.n e1
    have := uk'.1 z.1.n (List.mem_map.2 ⟨z, hz, rfl⟩)
    omega
theorem good_iff (R : List Rn) (L : List Kw) : schB R L = true ↔ Good R (L.map (·.1)) := by
  constructor
  · intro h
    unfold schB queB at h
    simp only [Bool.and_eq_true, List.all_eq_true, decide_eq_true_iff, Bool.not_eq_true'] at h
    obtain ⟨h1, h2, h3, h4, h5, h6, h7⟩ := h
    obtain ⟨ur, rb⟩ := riseT_up h2
    obtain ⟨uk, kb⟩ := riseT_up h3
    have hq : ∀ y ∈ L, (∀ i ∈ y.1.q, (⟨i, 1, y.1.n⟩ : Rn) ∈ R) ∧ y.1.q.Nodup := fun y hy => (lockQ_iff ur y).1 (h6 y hy)
    have hnd := allQ_nodup ur uk (fun y hy => (hq y hy).1) (fun y hy => (hq y hy).2)
    have hsub : ∀ i ∈ allQ L, i ∈ waitsL R := fun i hi => by
      obtain ⟨y, hy, hi⟩ := mem_allQ.1 hi
      exact mem_waitsL.2 ⟨_, (hq y hy).1 i hi, rfl, rfl⟩
    have hback := sub_back hnd hsub (by rw [waitsL_len, ← lensK_all]; simp at h7; omega)
    refine ⟨h1, ur, fun x hx => ?_, by rw [← numsK_names]; exact uk, fun y hy => ?_, fun x hx => ?_, fun y hy => ?_, fun y hy => ?_, fun y hy => ?_, fun y hy i hi => ?_, fun x hx hs => ?_⟩
    · have := rb x.i (List.mem_map.2 ⟨x, hx, rfl⟩); omega
    · obtain ⟨z, hz, rfl⟩ := List.mem_map.1 hy
      have := kb z.1.n (List.mem_map.2 ⟨z, hz, rfl⟩); omega
    · have := List.any_eq_false.1 h4 x hx
      simp only [strB, waitB, Bool.or_eq_true, decide_eq_true_iff, Bool.and_eq_true, bne_iff_ne, ne_eq, Bool.not_eq_true', beq_eq_false_iff_ne, not_or, not_and] at this
      refine ⟨by omega, by omega, fun hs => ?_⟩
      apply Classical.byContradiction
      intro hn
      exact this.2.2 hn hs
    · obtain ⟨z, hz, rfl⟩ := List.mem_map.1 hy
      have := h5 z hz
      unfold ownB at this
      rw [Bool.and_eq_true] at this
      exact (lives_iff ur _).1 this.1
    · obtain ⟨z, hz, rfl⟩ := List.mem_map.1 hy
      have := h5 z hz
      unfold ownB at this
      rw [Bool.and_eq_true] at this
      simpa using this.2
    · obtain ⟨z, hz, rfl⟩ := List.mem_map.1 hy
      exact (hq z hz).2
    · obtain ⟨z, hz, rfl⟩ := List.mem_map.1 hy
      exact (hq z hz).1 i hi
    · obtain ⟨y, hy, hi⟩ := mem_allQ.1 (hback x.i (mem_waitsL.2 ⟨x, hx, hs, rfl⟩))
      have e := uniqR ur ((hq y hy).1 x.i hi) hx rfl
      exact ⟨y.1, List.mem_map.2 ⟨y, hy, rfl⟩, by rw [← e], hi⟩
  · intro g
    have hq : ∀ y ∈ L, (∀ i ∈ y.1.q, (⟨i, 1, y.1.n⟩ : Rn) ∈ R) ∧ y.1.q.Nodup := fun y hy => ⟨g.qs y.1 (List.mem_map.2 ⟨y, hy, rfl⟩), g.nd y.1 (List.mem_map.2 ⟨y, hy, rfl⟩)⟩
    have uk : (numsK L).Pairwise (· < ·) := by rw [numsK_names]; exact g.uk
    have hnd := allQ_nodup g.ur uk (fun y hy => (hq y hy).1) (fun y hy => (hq y hy).2)
    have hsub : ∀ i ∈ allQ L, i ∈ waitsL R := fun i hi => by
      obtain ⟨y, hy, hi⟩ := mem_allQ.1 hi
      exact mem_waitsL.2 ⟨_, (hq y hy).1 i hi, rfl, rfl⟩
    have hsub2 : ∀ i ∈ waitsL R, i ∈ allQ L := fun i hi => by
      obtain ⟨x, hx, hs, rfl⟩ := mem_waitsL.1 hi
      obtain ⟨y, hy, _, hi⟩ := g.wt x hx hs
      obtain ⟨z, hz, rfl⟩ := List.mem_map.1 hy
      exact mem_allQ.2 ⟨z, hz, hi⟩
    have hl1 := sub_len hnd hsub
    have hl2 := sub_len (waitsL_nodup g.ur) hsub2
    rw [waitsL_len, ← lensK_all] at hl1 hl2
    unfold schB queB
    simp only [Bool.and_eq_true, List.all_eq_true, decide_eq_true_iff, Bool.not_eq_true']
    refine ⟨g.len, riseT_of g.ur fun i hi => ?_, riseT_of uk fun i hi => ?_, ?_, fun y hy => ?_, fun y hy => (lockQ_iff g.ur y).2 (hq y hy), by simp; omega⟩
    · obtain ⟨x, hx, rfl⟩ := List.mem_map.1 hi
      have := g.rb x hx
      simp only [numR]
      omega
    · obtain ⟨y, hy, rfl⟩ := List.mem_map.1 hi
      have := g.kb y.1 (List.mem_map.2 ⟨y, hy, rfl⟩)
      simp only [numK]
      omega
    · rw [List.any_eq_false]
      intro x hx
      obtain ⟨s1, s2, s3⟩ := g.st x hx
      simp only [strB, waitB, Bool.or_eq_true, decide_eq_true_iff, Bool.and_eq_true, bne_iff_ne, ne_eq, Bool.not_eq_true', beq_eq_false_iff_ne, not_or, not_and]
      exact ⟨by omega, by omega, fun hn hs => hn (s3 hs)⟩
    · unfold ownB
      rw [Bool.and_eq_true]
      exact ⟨(lives_iff g.ur _).2 (g.ow y.1 (List.mem_map.2 ⟨y, hy, rfl⟩)), by simpa using g.oq y.1 (List.mem_map.2 ⟨y, hy, rfl⟩)⟩
end Go.Proofs.Ytolalbpjaebfdaa
