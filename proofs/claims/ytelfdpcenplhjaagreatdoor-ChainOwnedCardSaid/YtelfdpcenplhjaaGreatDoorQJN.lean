/-
  PlB, PlG, PlH: in one file.
-/
import Derived.Test.YtelfdpcenplhjaaGreatDoorQJL
import Derived.Test.YtelfdpcenplhjaaGreatDoorQJK
import Derived.Test.YtelfdpcenplhjaaGreatDoorQHD
namespace Go.Proofs.YtelfdpcenplhjaaGreatDoor
open Go.RowKit Go.Shelf
set_option linter.unusedVariables false
set_option linter.unusedSimpArgs false
def bitG (g : List Ins) (arch : Int) : Int := bitS (fun k => alwI (gF g) g.length (k : Int) arch) 64
set_option maxRecDepth 100000 in
set_option maxHeartbeats 2000000 in
theorem pbits_any (A : Option Addr) (c : Nat) (g : List Ins) (w : World) (hK : HK w) (hA : Ri w w.heap.size A g.length (gF g)) (hcap : g.length ≤ c) (hM : May (gF g) g.length) :
    Calls Tryz.prog 60 #[.slice A g.length c] w fun e w' => e = .returned (.tuple #[.int .u64 (bitG g 3221225534), .int .u64 (bitG g 1073741827)]) ∧ Below w.heap.size w w' := by
  have hb := fun (arch : Int) (har : U32 arch) (V : World) (hV : Below w.heap.size w V) => bits_ok A g.length c (gF g) arch har V (hK.below hV (Nat.le_refl _)) ((hA.below hV (Nat.le_refl _)).more hV.size) hcap hM
  have h1 := hb 3221225534 (by unfold U32; omega)
  have h2 := hb 1073741827 (by unfold U32; omega)
  clear hb
  unfold bitG
  generalize bitS (fun k => alwI (gF g) g.length (k : Int) 3221225534) 64 = x1 at h1 ⊢
  generalize bitS (fun k => alwI (gF g) g.length (k : Int) 1073741827) 64 = x2 at h2 ⊢
  go_enter Tryz.func60, Tryz.ntmps60
  go_wp2_with fail
  refine (h1 w (Below.refl _ _)).mono ?_
  rintro e w1 ⟨rfl, b1⟩
  go_wp2_with fail
  refine (h2 w1 b1).mono ?_
  rintro e w2 ⟨rfl, b2⟩
  go_wp2_with fail
  refine bodyPost_ret (results_tmp2 rfl _ _ _) rfl ?_
  exact ⟨rfl, b1.trans (b2.mono b1.size)⟩
end Go.Proofs.YtelfdpcenplhjaaGreatDoor
namespace Go.Proofs.YtelfdpcenplhjaaGreatDoor
open Go.RowKit Go.Shelf
set_option linter.unusedVariables false
set_option linter.unusedSimpArgs false
def freeR (L : List Nl) : Int × Bool := match (List.range 24).find? (freeB L) with | some i => ((i : Int) + 1, true) | none => (0, false)
theorem freeR_eq {L : List Nl} {r : Int} {b : Bool} (h : (∃ i, (List.range 24).find? (freeB L) = some i ∧ r = (i : Int) + 1 ∧ b = true) ∨ (List.range 24).find? (freeB L) = none ∧ r = 0 ∧ b = false) : freeR L = (r, b) := by
  unfold freeR
  rcases h with ⟨i, h, rfl, rfl⟩ | ⟨h, rfl, rfl⟩ <;> rw [h]
theorem freeR_i64 {L : List Nl} {i : Int} {b : Bool} (h : freeR L = (i, b)) : I64 i := by
  unfold freeR at h
  split at h
  · rename_i k hk
    have hm := List.mem_of_find?_eq_some hk
    rw [List.mem_range] at hm
    cases h
    unfold I64
    omega
  · cases h
    unfold I64
    omega
theorem i64_wrap (x : Int) : I64 (IntKind.i64.wrap x) := by
  rw [IntKind.wrap_i64]
  unfold I64
  omega
theorem bitG_u64 (g : List Ins) (a : Int) : U64n (bitG g a) := by
  have h := bitS_bd (fun k => alwI (gF g) g.length (k : Int) a) 64
  unfold U64n bitG
  omega
def szG (L : List Nl) (pa : Int) (g : List Ins) : Int := IntKind.i64.wrap ((g.length : Int) + 4 + (idR L pa).1.1.z)
def freshE (L : List Nl) (pa : Int) (g : List Ins) : Int :=
  if chkG g = 0 then if ((idR L pa).2 || pa == 0) = true then if ((freeR L).2 && decide (szG L pa g ≤ 256)) = true then 0 else 23 else 4 else chkG g
def freshN (L : List Nl) (pa : Int) (g : List Ins) : Nm :=
  if freshE L pa g = 0 then ⟨(freeR L).1, pa, g, szG L pa g, 1, bitG g 3221225534, bitG g 1073741827⟩ else nm0
set_option maxRecDepth 100000 in
set_option maxHeartbeats 8000000 in
theorem fresh_any (A : Option Addr) (m c : Nat) (L : List Nl) (pa : Int) (hpa : I64 pa) (G : Option Addr) (gc : Nat) (g : List Ins) (w : World) (hK : HK w) (hP : Po w w.heap.size A L) (hm : m = L.length) (hmc : m ≤ c) (h6 : m ≤ 1000000)
    (hG : Ri w w.heap.size G g.length (gF g)) (hgo : ∀ q ∈ g, insO q) (hgl : g.length ≤ 1000000000) (hgc : g.length ≤ gc) :
    Calls Tryz.prog 35 #[poV A m c, .int .i64 pa, .slice G g.length gc] w fun e w' => ∃ l, e = .returned (.tuple #[ndV (freshN L pa g, l), .int .i64 (freshE L pa g)]) ∧ Nr w' w'.heap.size (freshN L pa g, l) ∧ (∀ a, l.1 = some a → w.heap.size ≤ a.block) ∧ Below w.heap.size w w' := by
  have k3 := (Blk.new w #[.slice A m c] 24).alloc (.cells (ndC nl0) 46)
  have k6 := Blk.new_ (w.alloc (.cells #[.slice A m c] 24)) (ndC nl0) 46 (n := w.heap.size + 1) (by simp)
  have B0 := ((Below.refl w.heap.size w).alloc (Nat.le_refl _) (.cells #[.slice A m c] 24)).alloc (by simp) (.cells (ndC nl0) 46)
  have HM := Lib.hid hm
  clear hm
  have CK := check_any G g.length gc (gF g) _ (hK.k.below B0 hK.k.pos) ((hG.below B0 (Nat.le_refl _)).more B0.size)
  obtain ⟨c1, hc1⟩ : ∃ c1, (chkI (gF g) g.length).1 = c1 := ⟨_, rfl⟩
  obtain ⟨c2, hc2⟩ : ∃ c2, (chkI (gF g) g.length).2 = c2 := ⟨_, rfl⟩
  have hcg : chkG g = c2 := hc2
  have hmay : c2 = 0 → May (gF g) g.length := fun h => may_chk (hc2.trans h)
  have HCG := Lib.hid hcg
  have HMY := Lib.hid hmay
  rw [hc1, hc2] at CK
  clear hc1 hc2 hcg hmay
  unfold poV
  go_enter Tryz.func35, Tryz.ntmps35
  go_wp2_with fail
  refine CK.mono ?_
  rintro e w1 ⟨rfl, bb⟩
  have k31 := k3.below bb k3.lt
  have k61 := k6.below bb k6.lt
  have b1 := B0.trans (bb.mono B0.size)
  clear CK k3 k6 B0 bb
  by_cases h0 : c2 = 0
  · have hne : (c2 != 0) = false := by simpa using h0
    have H0 := Lib.hid h0
    clear h0
    go_wp2_with (refine wpList_load_row rfl 24 (.tmp 3) rfl w.heap.size rfl 24 #[.slice A m c] (0, 0) _ k31.blk Tryz.underlying24 rfl (po_info A m c) ?_)
    refine (row_any A m c L pa _ ((hP.below b1 (Nat.le_refl _)).more b1.size) HM.out hmc h6).mono ?_
    rintro e w2 ⟨r, b, rfl, hr, bb⟩
    have hre := hr.eq
    have hnr := hr.nr hP.nr
    have HRE := Lib.hid hre
    have k32 := k31.below bb k31.lt
    have k62 := k61.below bb k61.lt
    have b2 := b1.trans (bb.mono b1.size)
    clear hr hre bb k31 k61 b1
    unfold ndV
    have key : (b = true ∨ (b = false ∧ (pa != 0) = false)) ∨ (b = false ∧ (pa != 0) = true) := by cases b <;> cases (pa != 0) <;> simp
    rcases key with key | ⟨rfl, hp⟩
    · have hok : ((idR L pa).2 || pa == 0) = true := by
        rw [HRE.out]
        rcases key with rfl | ⟨rfl, hp⟩
        · rfl
        · simpa using hp
      have HOK := Lib.hid hok
      clear hok
      have hlf := fun (V : World) (hV : Below w.heap.size w V) => leastFree_any A m c L V ((hP.below hV (Nat.le_refl _)).more hV.size) HM.out hmc h6
      unfold poV at hlf
      have hps := fun (V : World) (hV : Below w.heap.size w V) => psize_any G g.length gc r hnr.ok hgl V
      have hsz : szG L pa g = IntKind.i64.wrap ((g.length : Int) + 4 + r.1.z) := by unfold szG; rw [HRE.out]
      obtain ⟨zz, hzz⟩ : ∃ zz, IntKind.i64.wrap ((g.length : Int) + 4 + r.1.z) = zz := ⟨_, rfl⟩
      rw [hzz] at hps hsz
      have HSZ := Lib.hid hsz
      clear hzz hsz
      unfold ndV at hps
      rcases key with rfl | ⟨rfl, hp⟩
      all_goals
        go_wp2_with (first
          | (refine wpList_store_blk rfl 46 (.tmp 10) (.tmp 29) rfl w2.heap.size (ndC nl0) (ndC r) 46 rfl rfl (Blk.new _ _ _) rfl (nd_inf r) (nd_one r) ?_
             intro w3 h3 n3
             have bb : Below w2.heap.size w2 w3 := ((Below.refl _ w2).alloc (Nat.le_refl _) _).trans (n3.below _ (Nat.le_refl _) (by simp))
             have k33 := k32.below bb k32.lt
             have k63 := k62.below bb k62.lt
             have b3 := b2.trans (bb.mono b2.size)
             clear n3 bb b2 k32 k62)
          | (refine wpList_load_row rfl 24 (.tmp 3) rfl w.heap.size rfl 24 #[.slice A m c] (0, 0) _ k33.blk Tryz.underlying24 rfl (po_info A m c) ?_))
        refine (hlf w3 b3).mono ?_
        rintro e w4 ⟨fi, fb, rfl, hf, bb⟩
        have hfe := freeR_eq hf
        have HF := Lib.hid hfe
        have h4 := h3.below bb h3.lt
        have k64 := k63.below bb k63.lt
        have b4 := b3.trans (bb.mono b3.size)
        generalize w2.heap.size = g10 at h4 ⊢
        clear hf hfe h3 k33 k63 b3 bb hlf
        cases fb
        · go_wp2_with (refine wpList_store_blk rfl 46 (.tmp 6) (.tmp 51) rfl (w.heap.size + 1) (ndC nl0) (ndC nl0) 46 rfl rfl k64 rfl (nd_inf nl0) (nd_one nl0) ?_; intro w5 h5 n5)
          refine bodyPost_ret (results_rowT rfl _ _ (w.heap.size + 1) 46 (ndC nl0) _ rfl h5 Tryz.underlying46 rfl (nd_inf nl0) _ rfl) rfl ?_
          have he : freshE L pa g = 23 := by
            unfold freshE
            rw [HCG.out, if_pos H0.out, if_pos HOK.out, HF.out]
            rfl
          have hn : freshN L pa g = nm0 := by unfold freshN; rw [he]; rfl
          rw [he, hn]
          exact ⟨loc0, rfl, nr0, (fun a e => by cases e), b4.trans (n5.below _ (by omega) b4.size)⟩
        · go_wp2_with (refine wpListG_load (by rfl) 46 (.tmp 10) rfl g10 rfl 46 (ndC r) _ h4 Tryz.underlying46 rfl (nd_inf r) ?_)
          refine (hps w4 b4).mono ?_
          rintro e w5 ⟨rfl, bb⟩
          have h5 := h4.below bb h4.lt
          have k65 := k64.below bb k64.lt
          have b5 := b4.trans (bb.mono b4.size)
          clear h4 k64 b4 bb
          by_cases hz : zz ≤ 256
          · have hz' : (decide (256 < zz)) = false := by simpa using hz
            have he : freshE L pa g = 0 := by
              unfold freshE
              rw [HCG.out, if_pos H0.out, if_pos HOK.out, HF.out, HSZ.out]
              simp [hz]
            have hn : freshN L pa g = ⟨fi, pa, g, zz, 1, bitG g 3221225534, bitG g 1073741827⟩ := by unfold freshN; rw [he, if_pos rfl, HF.out, HSZ.out]
            have HE := Lib.hid he
            have HNN := Lib.hid hn
            have HZ := Lib.hid hz
            clear he hn hz
            have hpb := fun (V : World) (hV : Below w.heap.size w V) => pbits_any G gc g V (hK.below hV (Nat.le_refl _)) ((hG.below hV (Nat.le_refl _)).more hV.size) hgc (HMY.out H0.out)
            obtain ⟨o1, ho1⟩ : ∃ o1, bitG g 3221225534 = o1 := ⟨_, rfl⟩
            obtain ⟨o2, ho2⟩ : ∃ o2, bitG g 1073741827 = o2 := ⟨_, rfl⟩
            simp only [ho1, ho2] at hpb
            have HO1 := Lib.hid ho1
            have HO2 := Lib.hid ho2
            clear ho1 ho2
            go_wp2_with fail
            refine (hpb w5 b5).mono ?_
            rintro e w6 ⟨rfl, bb⟩
            have q6 := h5.below bb h5.lt
            have k66 := k65.below bb k65.lt
            have b6 := b5.trans (bb.mono b5.size)
            clear h5 k65 b5 bb hpb
            go_wp2_with (refine wpList_load_row rfl 46 (.tmp 10) rfl g10 rfl 46 (ndC r) (0, 0) _ q6.blk Tryz.underlying46 rfl (nd_inf r) ?_)
            refine (hps w6 b6).mono ?_
            rintro e w7 ⟨rfl, bb⟩
            have k67 := k66.below bb k66.lt
            have b7 := b6.trans (bb.mono b6.size)
            clear q6 k66 b6 bb hps
            have hxo : NmOk ⟨fi, pa, g, zz, 1, o1, o2⟩ := ⟨freeR_i64 HF.out, hpa, by rw [← HSZ.out]; exact i64_wrap _, by unfold I64; simp, by rw [← HO1.out]; exact bitG_u64 _ _, by rw [← HO2.out]; exact bitG_u64 _ _, hgo, hgl⟩
            have hcp := copied2_any (⟨fi, pa, g, zz, 1, o1, o2⟩, (G, gc)) w7 ⟨hxo, (hG.below b7 (Nat.le_refl _)).more b7.size, hgc⟩ (show g.length ≤ 300 by have := (HMY.out H0.out).hi; omega)
            unfold ndV ndC at hcp
            have HCP := Lib.hid hcp
            clear hcp
            go_wp2_with fail
            refine HCP.out.mono ?_
            rintro e w8 ⟨l, rfl, hnr8, hfr8, bb⟩
            have HL8 := Lib.hid (show ∀ a, l.1 = some a → w.heap.size ≤ a.block from fun a e => Nat.le_trans b7.size (hfr8 a e))
            clear hfr8
            have k68 := k67.below bb k67.lt
            have b8 := b7.trans (bb.mono b7.size)
            clear bb b7 k67
            have HN8 := Lib.hid hnr8
            clear hnr8
            go_wp2_with (refine wpList_store_blk rfl 46 (.tmp 6) (.tmp 66) rfl (w.heap.size + 1) (ndC nl0) (ndC (⟨fi, pa, g, zz, 1, o1, o2⟩, l)) 46 rfl rfl k68 rfl (nd_inf (⟨fi, pa, g, zz, 1, o1, o2⟩, l)) (nd_one (⟨fi, pa, g, zz, 1, o1, o2⟩, l)) ?_; intro w9 h9 n9)
            refine bodyPost_ret (results_rowT rfl _ _ (w.heap.size + 1) 46 (ndC (⟨fi, pa, g, zz, 1, o1, o2⟩, l)) _ rfl h9 Tryz.underlying46 rfl (nd_inf (⟨fi, pa, g, zz, 1, o1, o2⟩, l)) _ rfl) rfl ?_
            rw [HE.out, HNN.out, HO1.out, HO2.out]
            refine ⟨l, rfl, ⟨HN8.out.ok, fun k hk => ?_, HN8.out.le⟩, HL8.out, b8.trans (n9.below _ (by omega) b8.size)⟩
            exact (((HN8.out.ri.but k68 (Nat.le_refl _) fun b hb hl => n9.block b hl hb)).more (B' := w9.heap.size) (by have := n9.size; omega)) k hk
          · have hz' : (decide (256 < zz)) = true := by simp; omega
            have HZ := Lib.hid hz
            clear hz
            go_wp2_with (refine wpList_store_blk rfl 46 (.tmp 6) (.tmp 51) rfl (w.heap.size + 1) (ndC nl0) (ndC nl0) 46 rfl rfl k65 rfl (nd_inf nl0) (nd_one nl0) ?_; intro w6 h6 n6)
            refine bodyPost_ret (results_rowT rfl _ _ (w.heap.size + 1) 46 (ndC nl0) _ rfl h6 Tryz.underlying46 rfl (nd_inf nl0) _ rfl) rfl ?_
            have he : freshE L pa g = 23 := by
              unfold freshE
              rw [HCG.out, if_pos H0.out, if_pos HOK.out, HF.out, HSZ.out]
              simp [HZ.out]
            have hn : freshN L pa g = nm0 := by unfold freshN; rw [he]; rfl
            rw [he, hn]
            exact ⟨loc0, rfl, nr0, (fun a e => by cases e), b5.trans (n6.below _ (by omega) b5.size)⟩
    · go_wp2_with (first
        | (refine wpList_store_blk rfl 46 (.tmp 10) (.tmp 29) rfl w2.heap.size (ndC nl0) (ndC r) 46 rfl rfl (Blk.new _ _ _) rfl (nd_inf r) (nd_one r) ?_
           intro w3 h3 n3
           have bb : Below w2.heap.size w2 w3 := ((Below.refl _ w2).alloc (Nat.le_refl _) _).trans (n3.below _ (Nat.le_refl _) (by simp))
           have k63 := k62.below bb k62.lt
           have b3 := b2.trans (bb.mono b2.size)
           clear n3 bb b2 k32 k62)
        | (refine wpList_store_blk rfl 46 (.tmp 6) (.tmp 37) rfl (w.heap.size + 1) (ndC nl0) (ndC nl0) 46 rfl rfl k63 rfl (nd_inf nl0) (nd_one nl0) ?_; intro w5 h5 n5))
      refine bodyPost_ret (results_rowT rfl _ _ (w.heap.size + 1) 46 (ndC nl0) _ rfl h5 Tryz.underlying46 rfl (nd_inf nl0) _ rfl) rfl ?_
      have he : freshE L pa g = 4 := by
        unfold freshE
        rw [HCG.out, if_pos H0.out, HRE.out, if_neg (by simpa using hp)]
      have hn : freshN L pa g = nm0 := by unfold freshN; rw [he]; rfl
      rw [he, hn]
      exact ⟨loc0, rfl, nr0, (fun a e => by cases e), b3.trans (n5.below _ (by omega) b3.size)⟩
  · have hne : (c2 != 0) = true := by simpa using h0
    have HN := Lib.hid h0
    clear h0
    go_wp2_with (refine wpList_store_blk rfl 46 (.tmp 6) (.tmp 23) rfl (w.heap.size + 1) (ndC nl0) (ndC nl0) 46 rfl rfl k61 rfl (nd_inf nl0) (nd_one nl0) ?_; intro w5 h5 n5)
    refine bodyPost_ret (results_rowT rfl _ _ (w.heap.size + 1) 46 (ndC nl0) _ rfl h5 Tryz.underlying46 rfl (nd_inf nl0) _ rfl) rfl ?_
    have he : freshE L pa g = c2 := by unfold freshE; rw [HCG.out, if_neg HN.out]
    have hn : freshN L pa g = nm0 := by unfold freshN; rw [he, if_neg HN.out]
    rw [he, hn]
    exact ⟨loc0, rfl, nr0, (fun a e => by cases e), b1.trans (n5.below _ (by omega) b1.size)⟩
end Go.Proofs.YtelfdpcenplhjaaGreatDoor
namespace Go.Proofs.YtelfdpcenplhjaaGreatDoor
open Go.RowKit Go.Shelf
set_option linter.unusedVariables false
set_option linter.unusedSimpArgs false
end Go.Proofs.YtelfdpcenplhjaaGreatDoor
