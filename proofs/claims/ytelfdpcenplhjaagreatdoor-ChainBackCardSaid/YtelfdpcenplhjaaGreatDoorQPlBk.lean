/-
  The walk of ChainBack.
-/
import Derived.Test.YtelfdpcenplhjaaGreatDoorQVmS
import Derived.Test.YtelfdpcenplhjaaGreatDoorQPlWw
namespace Go.Proofs.YtelfdpcenplhjaaGreatDoor
open Go.RowKit Go.Shelf
set_option linter.unusedVariables false
set_option linter.unusedSimpArgs false
structure BkP (w : World) (A : Option Addr) (m c : Nat) (V : World) : Prop where
  b : Below w.heap.size w V
  k : Blk V w.heap.size #[.slice A m c] 24
theorem BkP.step {w V V' : World} {A : Option Addr} {m c : Nat} (h : BkP w A m c V) (bb : Below V.heap.size V V') : BkP w A m c V' := ⟨h.b.trans (bb.mono h.b.size), h.k.below bb h.k.lt⟩
theorem freshN_g {L : List Nl} {pa : Int} {g : List Ins} (h : freshE L pa g = 0) : (freshN L pa g).g = g := by unfold freshN; rw [if_pos h]
theorem ri_list {w : World} {B n : Nat} {A : Option Addr} {f : Nat → Ins} (h : Ri w B A n f) : Ri w B A ((List.range n).map f).length (gF ((List.range n).map f)) ∧ ∀ q ∈ (List.range n).map f, insO q := by
  refine ⟨fun k hk => ?_, fun q hq => ?_⟩
  · have hk' : k < n := by simpa using hk
    have e : gF ((List.range n).map f) k = f k := by simp [gF, List.getD, hk']
    rw [e]
    exact h k hk'
  · obtain ⟨k, hk, rfl⟩ := List.mem_map.1 hq
    obtain ⟨_, _, _, _, _, ho⟩ := h k (by simpa using hk)
    exact ho
set_option maxRecDepth 100000 in
set_option maxHeartbeats 16000000 in
theorem back_over (A : Option Addr) (m c : Nat) (L : List Nl) (pa : Int) (G : Option Addr) (gm gc : Nat) (w : World) (hK : HK w) (hPa : Pa w w.heap.size A L) (hm : m = L.length) (hmc : m ≤ c) (ho : overB L = true) :
    Calls Tryz.prog 6 #[poV A m c, .int .i64 pa, .slice G gm gc] w fun e w' => e = .returned (.bool true) ∧ Below w.heap.size w w' := by
  obtain ⟨W0, hW0⟩ : ∃ W0, W0 = w.alloc (.cells #[.slice A m c] 24) := ⟨_, rfl⟩
  have k0 : Blk W0 w.heap.size #[.slice A m c] 24 := by rw [hW0]; exact Blk.new w _ _
  have B0 : Below w.heap.size w W0 := by rw [hW0]; exact (Below.refl w.heap.size w).alloc (Nat.le_refl _) _
  have HKW := Lib.hid (fun V (h : Below w.heap.size w V) => hK.below h (Nat.le_refl _))
  have HWK := Lib.hid (fun V (h : Below w.heap.size w V) => wakes9_any V (HKW.out V h))
  have HOV := Lib.hid (fun V (h : Below w.heap.size w V) => over_any A m c L V (fun k hk => by obtain ⟨b, off, e, h1, h2⟩ := (hPa.below h (Nat.le_refl _)) k hk; exact ⟨b, off, e, Nat.lt_of_lt_of_le h1 h.size, h2⟩) hm hmc)
  rw [ho] at HOV
  unfold poV at *
  clear hPa hm hmc hK
  subst hW0
  have HW := Lib.hid (HWK.out _ B0)
  go_enter Tryz.func6, Tryz.ntmps6
  go_wp2_with (first
    | (refine HW.out.mono ?_
       clear HW
       rintro e v1 ⟨rfl, g1⟩
       have B1 := B0.trans (g1.mono B0.size)
       have p_1 := k0.below g1 k0.lt
       clear k0
       have HO := Lib.hid (HOV.out _ B1)
       go_wp2_with (first
         | (refine wpListG_load (by rfl) 24 (.tmp 3) rfl (w.heap.size) rfl 24 #[.slice A m c] _ p_1 Tryz.underlying24 rfl (po_info _ _ _) ?_)
         | (refine HO.out.mono ?_
            clear HO
            rintro e v2 ⟨rfl, g2⟩
            have B2 := B1.trans (g2.mono B1.size)
            have p_2 := p_1.below g2 p_1.lt
            clear p_1
            go_wp2_with fail))))
  go_ret
  exact ⟨by first | rfl | simp, B2⟩
set_option maxRecDepth 100000 in
set_option maxHeartbeats 16000000 in
theorem back_long (A : Option Addr) (m c : Nat) (L : List Nl) (pa : Int) (G : Option Addr) (gm gc : Nat) (w : World) (hK : HK w) (hPa : Pa w w.heap.size A L) (hm : m = L.length) (hmc : m ≤ c) (ho : overB L = false) (hPo : Po w w.heap.size A L) (hgl : ¬ gm ≤ 300) :
    Calls Tryz.prog 6 #[poV A m c, .int .i64 pa, .slice G gm gc] w fun e w' => e = .returned (.bool true) ∧ Below w.heap.size w w' := by
  obtain ⟨W0, hW0⟩ : ∃ W0, W0 = w.alloc (.cells #[.slice A m c] 24) := ⟨_, rfl⟩
  have k0 : Blk W0 w.heap.size #[.slice A m c] 24 := by rw [hW0]; exact Blk.new w _ _
  have B0 : Below w.heap.size w W0 := by rw [hW0]; exact (Below.refl w.heap.size w).alloc (Nat.le_refl _) _
  have HKW := Lib.hid (fun V (h : Below w.heap.size w V) => hK.below h (Nat.le_refl _))
  have HWK := Lib.hid (fun V (h : Below w.heap.size w V) => wakes9_any V (HKW.out V h))
  have HOV := Lib.hid (fun V (h : Below w.heap.size w V) => over_any A m c L V (fun k hk => by obtain ⟨b, off, e, h1, h2⟩ := (hPa.below h (Nat.le_refl _)) k hk; exact ⟨b, off, e, Nat.lt_of_lt_of_le h1 h.size, h2⟩) hm hmc)
  rw [ho] at HOV
  have HPV := Lib.hid (fun V (h : Below w.heap.size w V) => (⟨(hPo.below h (Nat.le_refl _)).more h.size, hm, hmc⟩ : Pk V A m c L))
  have HLL : Hid (L.length ≤ 60) := Lib.hid (over_false ho).1
  have HL6 : Hid (L.length ≤ 1000) := Lib.hid (by have := (over_false ho).1; omega)
  have HS3 : Hid (∀ x ∈ L, x.1.g.length ≤ 300) := Lib.hid (fun x hx => by have := ((over_false ho).2 x hx).1; omega)
  have hgd : decide ((300 : Int) < (gm : Int)) = true := by simp; omega
  unfold poV at *
  clear hPa hm hmc hK
  subst hW0
  have HW := Lib.hid (HWK.out _ B0)
  go_enter Tryz.func6, Tryz.ntmps6
  go_wp2_with (first
    | (refine HW.out.mono ?_
       clear HW
       rintro e v1 ⟨rfl, g1⟩
       have B1 := B0.trans (g1.mono B0.size)
       have p_1 := k0.below g1 k0.lt
       clear k0
       have HO := Lib.hid (HOV.out _ B1)
       go_wp2_with (first
         | (refine wpListG_load (by rfl) 24 (.tmp 3) rfl (w.heap.size) rfl 24 #[.slice A m c] _ p_1 Tryz.underlying24 rfl (po_info _ _ _) ?_)
         | (refine HO.out.mono ?_
            clear HO
            rintro e v2 ⟨rfl, g2⟩
            have B2 := B1.trans (g2.mono B1.size)
            have p_2 := p_1.below g2 p_1.lt
            clear p_1
            go_wp2_with fail))))
  go_ret
  exact ⟨by first | rfl | simp, B2⟩
set_option maxRecDepth 100000 in
set_option maxHeartbeats 16000000 in
theorem back_zero_no (A : Option Addr) (m c : Nat) (L : List Nl) (pa : Int) (G : Option Addr) (gm gc : Nat) (w : World) (hK : HK w) (hPa : Pa w w.heap.size A L) (hm : m = L.length) (hmc : m ≤ c) (ho : overB L = false) (hPo : Po w w.heap.size A L) (hgl : gm ≤ 300) (g : List Ins) (hgm : gm = g.length) (hG : Ri w w.heap.size G g.length (gF g)) (hgo : ∀ q ∈ g, insO q) (hgc : gm ≤ gc) (hp : pa = 0) (hc : ¬ chkP L = 0) :
    Calls Tryz.prog 6 #[poV A m c, .int .i64 pa, .slice G gm gc] w fun e w' => e = .returned (.bool true) ∧ Below w.heap.size w w' := by
  obtain ⟨W0, hW0⟩ : ∃ W0, W0 = w.alloc (.cells #[.slice A m c] 24) := ⟨_, rfl⟩
  have k0 : Blk W0 w.heap.size #[.slice A m c] 24 := by rw [hW0]; exact Blk.new w _ _
  have B0 : Below w.heap.size w W0 := by rw [hW0]; exact (Below.refl w.heap.size w).alloc (Nat.le_refl _) _
  have HKW := Lib.hid (fun V (h : Below w.heap.size w V) => hK.below h (Nat.le_refl _))
  have HWK := Lib.hid (fun V (h : Below w.heap.size w V) => wakes9_any V (HKW.out V h))
  have HOV := Lib.hid (fun V (h : Below w.heap.size w V) => over_any A m c L V (fun k hk => by obtain ⟨b, off, e, h1, h2⟩ := (hPa.below h (Nat.le_refl _)) k hk; exact ⟨b, off, e, Nat.lt_of_lt_of_le h1 h.size, h2⟩) hm hmc)
  rw [ho] at HOV
  have HPV := Lib.hid (fun V (h : Below w.heap.size w V) => (⟨(hPo.below h (Nat.le_refl _)).more h.size, hm, hmc⟩ : Pk V A m c L))
  have HLL : Hid (L.length ≤ 60) := Lib.hid (over_false ho).1
  have HL6 : Hid (L.length ≤ 1000) := Lib.hid (by have := (over_false ho).1; omega)
  have HS3 : Hid (∀ x ∈ L, x.1.g.length ≤ 300) := Lib.hid (fun x hx => by have := ((over_false ho).2 x hx).1; omega)
  subst hgm
  have HGV := Lib.hid (fun V (h : Below w.heap.size w V) => (hG.below h (Nat.le_refl _)).more h.size)
  have HGO := Lib.hid hgo
  have HGL := Lib.hid hgl
  have HGC := Lib.hid hgc
  have hgd : decide ((300 : Int) < (g.length : Int)) = false := by simp; omega
  clear hG hgo hgl hgc ho hPo
  have HCK := Lib.hid (fun V (h : Below w.heap.size w V) => cb_check V (HKW.out V h) (HPV.out V h) HL6.out)
  subst hp
  have hm0 : ((m : Int) == 0) = false := by have : ¬ m = 0 := fun e => hc (by rw [show L = [] from List.length_eq_zero_iff.1 (by omega)]; rfl); simp; omega
  generalize chkP L = ck at HCK hc
  have hcn : (ck != 0) = true := by simpa using hc
  clear hc
  unfold poV at *
  clear hPa hm hmc hK
  subst hW0
  have HW := Lib.hid (HWK.out _ B0)
  go_enter Tryz.func6, Tryz.ntmps6
  go_wp2_with (first
    | (refine HW.out.mono ?_
       clear HW
       rintro e v1 ⟨rfl, g1⟩
       have B1 := B0.trans (g1.mono B0.size)
       have p_1 := k0.below g1 k0.lt
       clear k0
       have HO := Lib.hid (HOV.out _ B1)
       go_wp2_with (first
         | (refine wpListG_load (by rfl) 24 (.tmp 3) rfl (w.heap.size) rfl 24 #[.slice A m c] _ p_1 Tryz.underlying24 rfl (po_info _ _ _) ?_)
         | (refine HO.out.mono ?_
            clear HO
            rintro e v2 ⟨rfl, g2⟩
            have B2 := B1.trans (g2.mono B1.size)
            have p_2 := p_1.below g2 p_1.lt
            clear p_1
            have HT := Lib.hid (cb_take0 v2 (HKW.out _ B2) (HPV.out _ B2) HL6.out HS3.out 0)
            go_wp2_with (first
              | (refine wpListG_load (by rfl) 24 (.tmp 3) rfl (w.heap.size) rfl 24 #[.slice A m c] _ p_2 Tryz.underlying24 rfl (po_info _ _ _) ?_)
              | (refine HT.out.mono ?_
                 clear HT
                 rintro e v3 ⟨⟨A1, m1, c1, er, rfl⟩, g3⟩
                 have B3 := B2.trans (g3.mono B2.size)
                 have p_3 := p_2.below g3 p_2.lt
                 clear p_2
                 have hlx := p_3.lt
                 go_wp2_with (first
                   | (refine wpList_store_blk rfl 24 (.tmp 7) (.tmp 33) rfl v3.heap.size #[.slice none 0 0] #[.slice A1 m1 c1] 24 rfl rfl (Blk.new _ _ _) rfl (po_info _ _ _) (by simp [Value.oneCell']) ?_
                      intro v4 x_4 h4
                      have g4 := newP rfl h4
                      have B4 := B3.trans (g4.mono B3.size)
                      have p_4 := p_3.below g4 p_3.lt
                      clear p_3
                      clear h4
                      go_wp2_with fail))))))))
  generalize v3.heap.size = gx at x_4 hlx ⊢
  have J0 : BkP w A m c v4.drew := ⟨B4.drew, p_4.drew⟩
  have x0 := x_4.drew
  clear p_4 x_4 B4
  refine region_cutP ?_
  refine wp_region_held_drew (S := BkP w A m c) (by kernel_rfl) J0 (fun _ => ?_)
  refine wpAnyH_take (i := 0) (v := .agg #[.slice A m c]) rfl (by kernel_rfl) (by kernel_rfl) (by kernel_rfl) (fun _ _ _ h => nomatch h.1) (yieldsIf_blk (by rfl) 24 (.tmp 3) rfl w.heap.size rfl #[.slice A m c] 24 _ (fun _ h => h.k) Tryz.underlying24 rfl rfl) J0 ?_
  try simp only [Act.put, List.getElem_toArray, List.getElem_cons_zero, List.getElem_cons_succ, List.setIfInBounds_toArray, List.set_cons_zero, List.set_cons_succ]
  refine wpAnyH_take (i := 1) (v := .agg #[.slice A m c]) rfl (by kernel_rfl) (by kernel_rfl) (by kernel_rfl) (fun _ _ _ h => nomatch h.1) (yieldsIf_blk (by rfl) 24 (.tmp 3) rfl w.heap.size rfl #[.slice A m c] 24 _ (fun _ h => h.k) Tryz.underlying24 rfl rfl) J0 ?_
  try simp only [Act.put, List.getElem_toArray, List.getElem_cons_zero, List.getElem_cons_succ, List.setIfInBounds_toArray, List.set_cons_zero, List.set_cons_succ]
  have HC := Lib.hid (HCK.out _ J0.b)
  refine wpAnyH_ready (rs := [2]) (by kernel_rfl) (by simp) ?_
  refine AllReadyH.cons rfl (fun K hK => ?_) AllReadyH.nil
  try simp only [Act.put, List.getElem_toArray, List.getElem_cons_zero, List.getElem_cons_succ, List.setIfInBounds_toArray, List.set_cons_zero, List.set_cons_succ]
  go_simp
  refine HC.out.mono ?_
  clear HC
  rintro e z1 ⟨rfl, gz⟩
  have J1 := J0.step gz
  have x1 := x0.below gz x0.lt
  clear gz x0
  go_wp2_with fail
  refine hK.out _ _ J1 (fun _ => ?_)
  clear hK K
  try simp only [Act.put, List.getElem_toArray, List.getElem_cons_zero, List.getElem_cons_succ, List.setIfInBounds_toArray, List.set_cons_zero, List.set_cons_succ]
  refine wpAnyH_ready (rs := [3]) (by kernel_rfl) (by simp) ?_
  refine AllReadyH.cons rfl (fun K hK => ?_) AllReadyH.nil
  try simp only [Act.put, List.getElem_toArray, List.getElem_cons_zero, List.getElem_cons_succ, List.setIfInBounds_toArray, List.set_cons_zero, List.set_cons_succ]
  rw [if_pos (by rfl)]
  refine wp_store_blk 24 (.tmp 7) (.tmp 37) rfl gx #[.slice A1 m1 c1] #[.slice A m c] 24 rfl rfl x1 rfl (po_info A m c) (by simp [Value.oneCell']) ?_
  intro z2 kz nz
  have J2 : BkP w A m c z2 := ⟨J1.b.trans (nz.below _ (by omega) J1.b.size), nz.blk7 J1.k (by omega)⟩
  have xz := kz
  clear nz kz x1
  refine hK.out _ _ J2 (fun _ => ?_)
  clear hK K
  try simp only [Act.put, List.getElem_toArray, List.getElem_cons_zero, List.getElem_cons_succ, List.setIfInBounds_toArray, List.set_cons_zero, List.set_cons_succ]
  refine wpAnyH_ready (rs := [4]) (by kernel_rfl) (by simp) ?_
  refine AllReadyH.cons rfl (fun K hK => ?_) AllReadyH.nil
  try simp only [Act.put, List.getElem_toArray, List.getElem_cons_zero, List.getElem_cons_succ, List.setIfInBounds_toArray, List.set_cons_zero, List.set_cons_succ]
  go_simp
  refine hK.out _ _ J2 (fun _ => ?_)
  clear hK K
  try simp only [Act.put, List.getElem_toArray, List.getElem_cons_zero, List.getElem_cons_succ, List.setIfInBounds_toArray, List.set_cons_zero, List.set_cons_succ]
  refine wpAnyH_done (by kernel_rfl) ?_ _
  refine ⟨rfl, ?_⟩
  have Bz := J2.b
  have kz := J2.k
  clear J2 J1 J0
  have q7 : z2.cell? ⟨gx, 0, none⟩ = some (.slice A m c) := xz.cell 0
  go_wp2_with fail
  go_ret
  exact ⟨by first | rfl | simp, Bz⟩
set_option maxRecDepth 100000 in
set_option maxHeartbeats 16000000 in
theorem back_zero_full (A : Option Addr) (m c : Nat) (L : List Nl) (pa : Int) (G : Option Addr) (gm gc : Nat) (w : World) (hK : HK w) (hPa : Pa w w.heap.size A L) (hm : m = L.length) (hmc : m ≤ c) (ho : overB L = false) (hPo : Po w w.heap.size A L) (hgl : gm ≤ 300) (g : List Ins) (hgm : gm = g.length) (hG : Ri w w.heap.size G g.length (gF g)) (hgo : ∀ q ∈ g, insO q) (hgc : gm ≤ gc) (hp : pa = 0) (hc : chkP L = 0) (hE : ¬ freshE L pa g = 0) :
    Calls Tryz.prog 6 #[poV A m c, .int .i64 pa, .slice G gm gc] w fun e w' => e = .returned (.bool true) ∧ Below w.heap.size w w' := by
  obtain ⟨W0, hW0⟩ : ∃ W0, W0 = w.alloc (.cells #[.slice A m c] 24) := ⟨_, rfl⟩
  have k0 : Blk W0 w.heap.size #[.slice A m c] 24 := by rw [hW0]; exact Blk.new w _ _
  have B0 : Below w.heap.size w W0 := by rw [hW0]; exact (Below.refl w.heap.size w).alloc (Nat.le_refl _) _
  have HKW := Lib.hid (fun V (h : Below w.heap.size w V) => hK.below h (Nat.le_refl _))
  have HWK := Lib.hid (fun V (h : Below w.heap.size w V) => wakes9_any V (HKW.out V h))
  have HOV := Lib.hid (fun V (h : Below w.heap.size w V) => over_any A m c L V (fun k hk => by obtain ⟨b, off, e, h1, h2⟩ := (hPa.below h (Nat.le_refl _)) k hk; exact ⟨b, off, e, Nat.lt_of_lt_of_le h1 h.size, h2⟩) hm hmc)
  rw [ho] at HOV
  have HPV := Lib.hid (fun V (h : Below w.heap.size w V) => (⟨(hPo.below h (Nat.le_refl _)).more h.size, hm, hmc⟩ : Pk V A m c L))
  have HLL : Hid (L.length ≤ 60) := Lib.hid (over_false ho).1
  have HL6 : Hid (L.length ≤ 1000) := Lib.hid (by have := (over_false ho).1; omega)
  have HS3 : Hid (∀ x ∈ L, x.1.g.length ≤ 300) := Lib.hid (fun x hx => by have := ((over_false ho).2 x hx).1; omega)
  subst hgm
  have HGV := Lib.hid (fun V (h : Below w.heap.size w V) => (hG.below h (Nat.le_refl _)).more h.size)
  have HGO := Lib.hid hgo
  have HGL := Lib.hid hgl
  have HGC := Lib.hid hgc
  have hgd : decide ((300 : Int) < (g.length : Int)) = false := by simp; omega
  clear hG hgo hgl hgc ho hPo
  have HCK := Lib.hid (fun V (h : Below w.heap.size w V) => cb_check V (HKW.out V h) (HPV.out V h) HL6.out)
  subst hp
  have HC0 := Lib.hid hc
  rw [hc] at HCK
  clear hc
  have HFE := Lib.hid hE
  clear hE
  unfold poV at *
  clear hPa hm hmc hK
  subst hW0
  have HW := Lib.hid (HWK.out _ B0)
  go_enter Tryz.func6, Tryz.ntmps6
  go_wp2_with (first
    | (refine HW.out.mono ?_
       clear HW
       rintro e v1 ⟨rfl, g1⟩
       have B1 := B0.trans (g1.mono B0.size)
       have p_1 := k0.below g1 k0.lt
       clear k0
       have HO := Lib.hid (HOV.out _ B1)
       go_wp2_with (first
         | (refine wpListG_load (by rfl) 24 (.tmp 3) rfl (w.heap.size) rfl 24 #[.slice A m c] _ p_1 Tryz.underlying24 rfl (po_info _ _ _) ?_)
         | (refine HO.out.mono ?_
            clear HO
            rintro e v2 ⟨rfl, g2⟩
            have B2 := B1.trans (g2.mono B1.size)
            have p_2 := p_1.below g2 p_1.lt
            clear p_1
            have HT := Lib.hid (cb_take0 v2 (HKW.out _ B2) (HPV.out _ B2) HL6.out HS3.out 0)
            go_wp2_with (first
              | (refine wpListG_load (by rfl) 24 (.tmp 3) rfl (w.heap.size) rfl 24 #[.slice A m c] _ p_2 Tryz.underlying24 rfl (po_info _ _ _) ?_)
              | (refine HT.out.mono ?_
                 clear HT
                 rintro e v3 ⟨⟨A1, m1, c1, er, rfl⟩, g3⟩
                 have B3 := B2.trans (g3.mono B2.size)
                 have p_3 := p_2.below g3 p_2.lt
                 clear p_2
                 have hlx := p_3.lt
                 go_wp2_with (first
                   | (refine wpList_store_blk rfl 24 (.tmp 7) (.tmp 33) rfl v3.heap.size #[.slice none 0 0] #[.slice A1 m1 c1] 24 rfl rfl (Blk.new _ _ _) rfl (po_info _ _ _) (by simp [Value.oneCell']) ?_
                      intro v4 x_4 h4
                      have g4 := newP rfl h4
                      have B4 := B3.trans (g4.mono B3.size)
                      have p_4 := p_3.below g4 p_3.lt
                      clear p_3
                      clear h4
                      go_wp2_with fail))))))))
  generalize v3.heap.size = gx at x_4 hlx ⊢
  have J0 : BkP w A m c v4.drew := ⟨B4.drew, p_4.drew⟩
  have x0 := x_4.drew
  clear p_4 x_4 B4
  refine region_cutP ?_
  refine wp_region_held_drew (S := BkP w A m c) (by kernel_rfl) J0 (fun _ => ?_)
  refine wpAnyH_take (i := 0) (v := .agg #[.slice A m c]) rfl (by kernel_rfl) (by kernel_rfl) (by kernel_rfl) (fun _ _ _ h => nomatch h.1) (yieldsIf_blk (by rfl) 24 (.tmp 3) rfl w.heap.size rfl #[.slice A m c] 24 _ (fun _ h => h.k) Tryz.underlying24 rfl rfl) J0 ?_
  try simp only [Act.put, List.getElem_toArray, List.getElem_cons_zero, List.getElem_cons_succ, List.setIfInBounds_toArray, List.set_cons_zero, List.set_cons_succ]
  refine wpAnyH_take (i := 1) (v := .agg #[.slice A m c]) rfl (by kernel_rfl) (by kernel_rfl) (by kernel_rfl) (fun _ _ _ h => nomatch h.1) (yieldsIf_blk (by rfl) 24 (.tmp 3) rfl w.heap.size rfl #[.slice A m c] 24 _ (fun _ h => h.k) Tryz.underlying24 rfl rfl) J0 ?_
  try simp only [Act.put, List.getElem_toArray, List.getElem_cons_zero, List.getElem_cons_succ, List.setIfInBounds_toArray, List.set_cons_zero, List.set_cons_succ]
  have HC := Lib.hid (HCK.out _ J0.b)
  refine wpAnyH_ready (rs := [2]) (by kernel_rfl) (by simp) ?_
  refine AllReadyH.cons rfl (fun K hK => ?_) AllReadyH.nil
  try simp only [Act.put, List.getElem_toArray, List.getElem_cons_zero, List.getElem_cons_succ, List.setIfInBounds_toArray, List.set_cons_zero, List.set_cons_succ]
  go_simp
  refine HC.out.mono ?_
  clear HC
  rintro e z1 ⟨rfl, gz⟩
  have J1 := J0.step gz
  have x1 := x0.below gz x0.lt
  clear gz x0
  go_wp2_with fail
  refine hK.out _ _ J1 (fun _ => ?_)
  clear hK K
  try simp only [Act.put, List.getElem_toArray, List.getElem_cons_zero, List.getElem_cons_succ, List.setIfInBounds_toArray, List.set_cons_zero, List.set_cons_succ]
  refine wpAnyH_ready (rs := [3]) (by kernel_rfl) (by simp) ?_
  refine AllReadyH.cons rfl (fun K hK => ?_) AllReadyH.nil
  try simp only [Act.put, List.getElem_toArray, List.getElem_cons_zero, List.getElem_cons_succ, List.setIfInBounds_toArray, List.set_cons_zero, List.set_cons_succ]
  rw [if_pos (by rfl)]
  refine wp_store_blk 24 (.tmp 7) (.tmp 37) rfl gx #[.slice A1 m1 c1] #[.slice A m c] 24 rfl rfl x1 rfl (po_info A m c) (by simp [Value.oneCell']) ?_
  intro z2 kz nz
  have J2 : BkP w A m c z2 := ⟨J1.b.trans (nz.below _ (by omega) J1.b.size), nz.blk7 J1.k (by omega)⟩
  have xz := kz
  clear nz kz x1
  refine hK.out _ _ J2 (fun _ => ?_)
  clear hK K
  try simp only [Act.put, List.getElem_toArray, List.getElem_cons_zero, List.getElem_cons_succ, List.setIfInBounds_toArray, List.set_cons_zero, List.set_cons_succ]
  refine wpAnyH_ready (rs := [4]) (by kernel_rfl) (by simp) ?_
  refine AllReadyH.cons rfl (fun K hK => ?_) AllReadyH.nil
  try simp only [Act.put, List.getElem_toArray, List.getElem_cons_zero, List.getElem_cons_succ, List.setIfInBounds_toArray, List.set_cons_zero, List.set_cons_succ]
  go_simp
  refine hK.out _ _ J2 (fun _ => ?_)
  clear hK K
  try simp only [Act.put, List.getElem_toArray, List.getElem_cons_zero, List.getElem_cons_succ, List.setIfInBounds_toArray, List.set_cons_zero, List.set_cons_succ]
  refine wpAnyH_done (by kernel_rfl) ?_ _
  refine ⟨rfl, ?_⟩
  have Bz := J2.b
  have kz := J2.k
  clear J2 J1 J0
  have pz0 := (HPV.out _ Bz)
  have HA := Lib.hid (cb_add_no z2 (HKW.out _ Bz) pz0 HL6.out HS3.out (pa := 0) (by unfold I64; omega) ((HGV.out _ Bz)) HGO.out HGL.out HGC.out HC0.out HFE.out)
  generalize freshE L 0 g = fe at HA HFE
  have hfe : (fe != 0) = true := by simpa using HFE.out
  go_wp2_with (first
    | (refine wpListG_load (by rfl) 24 (.tmp 7) rfl (gx) rfl 24 #[.slice A m c] _ xz Tryz.underlying24 rfl (po_info _ _ _) ?_)
    | (refine HA.out.mono ?_
       clear HA
       rintro e v5 ⟨rfl, g5⟩
       have B5 := Bz.trans (g5.mono Bz.size)
       have p_5 := kz.below g5 kz.lt
       have x_5 := xz.below g5 xz.lt
       have px_5 := pz0.below g5
       clear kz xz pz0
       go_wp2_with (first
         | (refine wpList_store_blk rfl 24 (.tmp 12) (.tmp 77) rfl v5.heap.size #[.slice none 0 0] #[.slice none 0 0] 24 rfl rfl (Blk.new _ _ _) rfl (po_info _ _ _) (by simp [Value.oneCell']) ?_
            intro v6 y_6 h6
            have g6 := newP rfl h6
            have B6 := B5.trans (g6.mono B5.size)
            have p_6 := p_5.below g6 p_5.lt
            have x_6 := x_5.below g6 x_5.lt
            have px_6 := px_5.below g6
            clear p_5 x_5 px_5
            clear h6
            have q12 : v6.cell? ⟨v5.heap.size, 0, none⟩ = some (.slice none 0 0) := y_6.cell 0
            go_wp2_with fail))))
  go_ret
  exact ⟨by first | rfl | simp, B6⟩
set_option maxRecDepth 100000 in
set_option maxHeartbeats 16000000 in
theorem back_zero_ok (A : Option Addr) (m c : Nat) (L : List Nl) (pa : Int) (G : Option Addr) (gm gc : Nat) (w : World) (hK : HK w) (hPa : Pa w w.heap.size A L) (hm : m = L.length) (hmc : m ≤ c) (ho : overB L = false) (hPo : Po w w.heap.size A L) (hgl : gm ≤ 300) (g : List Ins) (hgm : gm = g.length) (hG : Ri w w.heap.size G g.length (gF g)) (hgo : ∀ q ∈ g, insO q) (hgc : gm ≤ gc) (hp : pa = 0) (hc : chkP L = 0) (hE : freshE L pa g = 0) :
    Calls Tryz.prog 6 #[poV A m c, .int .i64 pa, .slice G gm gc] w fun e w' => e = .returned (.bool true) ∧ Below w.heap.size w w' := by
  obtain ⟨W0, hW0⟩ : ∃ W0, W0 = w.alloc (.cells #[.slice A m c] 24) := ⟨_, rfl⟩
  have k0 : Blk W0 w.heap.size #[.slice A m c] 24 := by rw [hW0]; exact Blk.new w _ _
  have B0 : Below w.heap.size w W0 := by rw [hW0]; exact (Below.refl w.heap.size w).alloc (Nat.le_refl _) _
  have HKW := Lib.hid (fun V (h : Below w.heap.size w V) => hK.below h (Nat.le_refl _))
  have HWK := Lib.hid (fun V (h : Below w.heap.size w V) => wakes9_any V (HKW.out V h))
  have HOV := Lib.hid (fun V (h : Below w.heap.size w V) => over_any A m c L V (fun k hk => by obtain ⟨b, off, e, h1, h2⟩ := (hPa.below h (Nat.le_refl _)) k hk; exact ⟨b, off, e, Nat.lt_of_lt_of_le h1 h.size, h2⟩) hm hmc)
  rw [ho] at HOV
  have HPV := Lib.hid (fun V (h : Below w.heap.size w V) => (⟨(hPo.below h (Nat.le_refl _)).more h.size, hm, hmc⟩ : Pk V A m c L))
  have HLL : Hid (L.length ≤ 60) := Lib.hid (over_false ho).1
  have HL6 : Hid (L.length ≤ 1000) := Lib.hid (by have := (over_false ho).1; omega)
  have HS3 : Hid (∀ x ∈ L, x.1.g.length ≤ 300) := Lib.hid (fun x hx => by have := ((over_false ho).2 x hx).1; omega)
  subst hgm
  have HGV := Lib.hid (fun V (h : Below w.heap.size w V) => (hG.below h (Nat.le_refl _)).more h.size)
  have HGO := Lib.hid hgo
  have HGL := Lib.hid hgl
  have HGC := Lib.hid hgc
  have hgd : decide ((300 : Int) < (g.length : Int)) = false := by simp; omega
  clear hG hgo hgl hgc ho hPo
  have HCK := Lib.hid (fun V (h : Below w.heap.size w V) => cb_check V (HKW.out V h) (HPV.out V h) HL6.out)
  subst hp
  have HB := Lib.hid (bk_zero hc)
  have HC0 := Lib.hid hc
  rw [hc] at HCK
  clear hc
  have HFE := Lib.hid hE
  have HXS := Lib.hid (⟨by have := (HL6.out); exact this, HS3.out⟩ : L.length ≤ 1000 ∧ ∀ x ∈ L, x.1.g.length ≤ 300)
  have HXL := HLL
  clear hE
  unfold poV at *
  clear hPa hm hmc hK
  subst hW0
  have HW := Lib.hid (HWK.out _ B0)
  go_enter Tryz.func6, Tryz.ntmps6
  go_wp2_with (first
    | (refine HW.out.mono ?_
       clear HW
       rintro e v1 ⟨rfl, g1⟩
       have B1 := B0.trans (g1.mono B0.size)
       have p_1 := k0.below g1 k0.lt
       clear k0
       have HO := Lib.hid (HOV.out _ B1)
       go_wp2_with (first
         | (refine wpListG_load (by rfl) 24 (.tmp 3) rfl (w.heap.size) rfl 24 #[.slice A m c] _ p_1 Tryz.underlying24 rfl (po_info _ _ _) ?_)
         | (refine HO.out.mono ?_
            clear HO
            rintro e v2 ⟨rfl, g2⟩
            have B2 := B1.trans (g2.mono B1.size)
            have p_2 := p_1.below g2 p_1.lt
            clear p_1
            have HT := Lib.hid (cb_take0 v2 (HKW.out _ B2) (HPV.out _ B2) HL6.out HS3.out 0)
            go_wp2_with (first
              | (refine wpListG_load (by rfl) 24 (.tmp 3) rfl (w.heap.size) rfl 24 #[.slice A m c] _ p_2 Tryz.underlying24 rfl (po_info _ _ _) ?_)
              | (refine HT.out.mono ?_
                 clear HT
                 rintro e v3 ⟨⟨A1, m1, c1, er, rfl⟩, g3⟩
                 have B3 := B2.trans (g3.mono B2.size)
                 have p_3 := p_2.below g3 p_2.lt
                 clear p_2
                 have hlx := p_3.lt
                 go_wp2_with (first
                   | (refine wpList_store_blk rfl 24 (.tmp 7) (.tmp 33) rfl v3.heap.size #[.slice none 0 0] #[.slice A1 m1 c1] 24 rfl rfl (Blk.new _ _ _) rfl (po_info _ _ _) (by simp [Value.oneCell']) ?_
                      intro v4 x_4 h4
                      have g4 := newP rfl h4
                      have B4 := B3.trans (g4.mono B3.size)
                      have p_4 := p_3.below g4 p_3.lt
                      clear p_3
                      clear h4
                      go_wp2_with fail))))))))
  generalize v3.heap.size = gx at x_4 hlx ⊢
  have J0 : BkP w A m c v4.drew := ⟨B4.drew, p_4.drew⟩
  have x0 := x_4.drew
  clear p_4 x_4 B4
  refine region_cutP ?_
  refine wp_region_held_drew (S := BkP w A m c) (by kernel_rfl) J0 (fun _ => ?_)
  refine wpAnyH_take (i := 0) (v := .agg #[.slice A m c]) rfl (by kernel_rfl) (by kernel_rfl) (by kernel_rfl) (fun _ _ _ h => nomatch h.1) (yieldsIf_blk (by rfl) 24 (.tmp 3) rfl w.heap.size rfl #[.slice A m c] 24 _ (fun _ h => h.k) Tryz.underlying24 rfl rfl) J0 ?_
  try simp only [Act.put, List.getElem_toArray, List.getElem_cons_zero, List.getElem_cons_succ, List.setIfInBounds_toArray, List.set_cons_zero, List.set_cons_succ]
  refine wpAnyH_take (i := 1) (v := .agg #[.slice A m c]) rfl (by kernel_rfl) (by kernel_rfl) (by kernel_rfl) (fun _ _ _ h => nomatch h.1) (yieldsIf_blk (by rfl) 24 (.tmp 3) rfl w.heap.size rfl #[.slice A m c] 24 _ (fun _ h => h.k) Tryz.underlying24 rfl rfl) J0 ?_
  try simp only [Act.put, List.getElem_toArray, List.getElem_cons_zero, List.getElem_cons_succ, List.setIfInBounds_toArray, List.set_cons_zero, List.set_cons_succ]
  have HC := Lib.hid (HCK.out _ J0.b)
  refine wpAnyH_ready (rs := [2]) (by kernel_rfl) (by simp) ?_
  refine AllReadyH.cons rfl (fun K hK => ?_) AllReadyH.nil
  try simp only [Act.put, List.getElem_toArray, List.getElem_cons_zero, List.getElem_cons_succ, List.setIfInBounds_toArray, List.set_cons_zero, List.set_cons_succ]
  go_simp
  refine HC.out.mono ?_
  clear HC
  rintro e z1 ⟨rfl, gz⟩
  have J1 := J0.step gz
  have x1 := x0.below gz x0.lt
  clear gz x0
  go_wp2_with fail
  refine hK.out _ _ J1 (fun _ => ?_)
  clear hK K
  try simp only [Act.put, List.getElem_toArray, List.getElem_cons_zero, List.getElem_cons_succ, List.setIfInBounds_toArray, List.set_cons_zero, List.set_cons_succ]
  refine wpAnyH_ready (rs := [3]) (by kernel_rfl) (by simp) ?_
  refine AllReadyH.cons rfl (fun K hK => ?_) AllReadyH.nil
  try simp only [Act.put, List.getElem_toArray, List.getElem_cons_zero, List.getElem_cons_succ, List.setIfInBounds_toArray, List.set_cons_zero, List.set_cons_succ]
  rw [if_pos (by rfl)]
  refine wp_store_blk 24 (.tmp 7) (.tmp 37) rfl gx #[.slice A1 m1 c1] #[.slice A m c] 24 rfl rfl x1 rfl (po_info A m c) (by simp [Value.oneCell']) ?_
  intro z2 kz nz
  have J2 : BkP w A m c z2 := ⟨J1.b.trans (nz.below _ (by omega) J1.b.size), nz.blk7 J1.k (by omega)⟩
  have xz := kz
  clear nz kz x1
  refine hK.out _ _ J2 (fun _ => ?_)
  clear hK K
  try simp only [Act.put, List.getElem_toArray, List.getElem_cons_zero, List.getElem_cons_succ, List.setIfInBounds_toArray, List.set_cons_zero, List.set_cons_succ]
  refine wpAnyH_ready (rs := [4]) (by kernel_rfl) (by simp) ?_
  refine AllReadyH.cons rfl (fun K hK => ?_) AllReadyH.nil
  try simp only [Act.put, List.getElem_toArray, List.getElem_cons_zero, List.getElem_cons_succ, List.setIfInBounds_toArray, List.set_cons_zero, List.set_cons_succ]
  go_simp
  refine hK.out _ _ J2 (fun _ => ?_)
  clear hK K
  try simp only [Act.put, List.getElem_toArray, List.getElem_cons_zero, List.getElem_cons_succ, List.setIfInBounds_toArray, List.set_cons_zero, List.set_cons_succ]
  refine wpAnyH_done (by kernel_rfl) ?_ _
  refine ⟨rfl, ?_⟩
  have Bz := J2.b
  have kz := J2.k
  clear J2 J1 J0
  have pz0 := (HPV.out _ Bz)
  have HA := Lib.hid (cb_add_ok z2 (HKW.out _ Bz) pz0 HL6.out HS3.out (pa := 0) (by unfold I64; omega) ((HGV.out _ Bz)) HGO.out HGL.out HGC.out HC0.out HFE.out)
  go_wp2_with (first
    | (refine wpListG_load (by rfl) 24 (.tmp 7) rfl (gx) rfl 24 #[.slice A m c] _ xz Tryz.underlying24 rfl (po_info _ _ _) ?_)
    | (refine HA.out.mono ?_
       clear HA
       rintro e v5 ⟨A2, m2, c2, Y, rfl, py, hY, g5⟩
       have B5 := Bz.trans (g5.mono Bz.size)
       have p_5 := kz.below g5 kz.lt
       have x_5 := xz.below g5 xz.lt
       have px_5 := pz0.below g5
       clear kz xz pz0
       obtain ⟨j, hj, hjn⟩ := hY
       obtain ⟨hyc, hyh, hyg, hyb⟩ := add_give HB.out HFE.out hj hjn
       have hjk : j ≤ L.length := (by obtain ⟨j2, e2, l2⟩ := fresh_at HFE.out; have e3 : j = j2 := (by have := hj.symm.trans e2; omega); rw [e3]; exact l2)
       have hyl := len_ins hjn hjk
       clear hjk
       have hys := short_ins hjn (by rw [freshN_g HFE.out]; exact HGL.out) HXS.out.2
       have HY := Lib.hid (⟨hyc, hyh, hyg, hyb, by rw [hyl]; have := HXL.out; omega, hys⟩ : chkP Y = 0 ∧ honP Y = honP L ∧ giveE Y (freshN L 0 g).i = 0 ∧ (∀ (Y1 U L2 : List Nl), Y1.map (·.1) = Y.map (·.1) → Up Y1 (freshN L 0 g).i U → GvL Y1 U L2 → (goneU U).map (fun x => x.1.i) = [(freshN L 0 g).i] ∧ L2.map (·.1) = L.map (·.1)) ∧ Y.length ≤ 1000 ∧ ∀ x ∈ Y, x.1.g.length ≤ 300)
       clear hyc hyh hyg hyb hyl hys hjn hj
       obtain ⟨idn, hidn⟩ : ∃ i, (freshN L 0 g).i = i := ⟨_, rfl⟩
       rw [hidn] at HY ⊢
       clear hidn
       go_wp2_with (first
         | (refine wpList_store_blk rfl 24 (.tmp 12) (.tmp 77) rfl v5.heap.size #[.slice none 0 0] #[.slice A2 m2 c2] 24 rfl rfl (Blk.new _ _ _) rfl (po_info _ _ _) (by simp [Value.oneCell']) ?_
            intro v6 y_6 h6
            have g6 := newP rfl h6
            have B6 := B5.trans (g6.mono B5.size)
            have p_6 := p_5.below g6 p_5.lt
            have x_6 := x_5.below g6 x_5.lt
            have px_6 := px_5.below g6
            have py_6 := py.below g6
            clear p_5 x_5 px_5 py
            clear h6
            have HG := Lib.hid (cb_give2 (L := L) v6 (HKW.out _ B6) py_6 HY.out.2.2.2.2.1 HY.out.2.2.2.2.2 HY.out.1 HY.out.2.2.1 HY.out.2.2.2.1)
            go_wp2_with (first
              | (refine wpListG_load (by rfl) 24 (.tmp 12) rfl (v5.heap.size) rfl 24 #[.slice A2 m2 c2] _ y_6 Tryz.underlying24 rfl (po_info _ _ _) ?_)
              | (refine HG.out.mono ?_
                 clear HG
                 rintro e v7 ⟨A3, m3, c3, b, off, gc3, Z, rfl, pz, hZ, hbl, hc3, g7⟩
                 have B7 := B6.trans (g7.mono B6.size)
                 have p_7 := p_6.below g7 p_6.lt
                 have x_7 := x_6.below g7 x_6.lt
                 have y_7 := y_6.below g7 y_6.lt
                 have px_7 := px_6.below g7
                 have py_7 := py_6.below g7
                 clear p_6 x_6 y_6 px_6 py_6
                 have HZ := Lib.hid hZ
                 clear hZ
                 go_wp2_with (first
                   | (refine wpList_store_blk rfl 24 (.tmp 14) (.tmp 94) rfl v7.heap.size #[.slice none 0 0] #[.slice A3 m3 c3] 24 rfl rfl (Blk.new _ _ _) rfl (po_info _ _ _) (by simp [Value.oneCell']) ?_
                      intro v8 z_8 h8
                      have g8 := newP rfl h8
                      have B8 := B7.trans (g8.mono B7.size)
                      have p_8 := p_7.below g8 p_7.lt
                      have x_8 := x_7.below g8 x_7.lt
                      have y_8 := y_7.below g8 y_7.lt
                      have px_8 := px_7.below g8
                      have py_8 := py_7.below g8
                      have pz_8 := pz.below g8
                      have q_8 := (g8.cell (p := ⟨b, off, none⟩) hbl).trans hc3
                      have lq_8 := Nat.lt_of_lt_of_le hbl g8.size
                      clear p_7 x_7 y_7 px_7 py_7 pz hc3 hbl
                      clear h8
                      have HH := Lib.hid (cb_honest v8 (HKW.out _ B8) (HPV.out _ B8) HL6.out HC0.out)
                      go_wp2_with (first
                        | (refine wpListG_load (by rfl) 24 (.tmp 3) rfl (w.heap.size) rfl 24 #[.slice A m c] _ p_8 Tryz.underlying24 rfl (po_info _ _ _) ?_)
                        | (refine HH.out.mono ?_
                           clear HH
                           rintro e v9 ⟨rfl, g9⟩
                           have B9 := B8.trans (g9.mono B8.size)
                           have p_9 := p_8.below g9 p_8.lt
                           have x_9 := x_8.below g9 x_8.lt
                           have y_9 := y_8.below g9 y_8.lt
                           have z_9 := z_8.below g9 z_8.lt
                           have px_9 := px_8.below g9
                           have py_9 := py_8.below g9
                           have pz_9 := pz_8.below g9
                           have q_9 := (g9.cell (p := ⟨b, off, none⟩) lq_8).trans q_8
                           have lq_9 := Nat.lt_of_lt_of_le lq_8 g9.size
                           clear p_8 x_8 y_8 z_8 px_8 py_8 pz_8 q_8 lq_8
                           have HI := Lib.hid (cb_honest v9 (HKW.out _ B9) py_9 HY.out.2.2.2.2.1 HY.out.1)
                           rw [HY.out.2.1] at HI
                           go_wp2_with (first
                             | (refine wpListG_load (by rfl) 24 (.tmp 12) rfl (v5.heap.size) rfl 24 #[.slice A2 m2 c2] _ y_9 Tryz.underlying24 rfl (po_info _ _ _) ?_)
                             | (refine HI.out.mono ?_
                                clear HI
                                rintro e v10 ⟨rfl, g10⟩
                                have B10 := B9.trans (g10.mono B9.size)
                                have p_10 := p_9.below g10 p_9.lt
                                have x_10 := x_9.below g10 x_9.lt
                                have y_10 := y_9.below g10 y_9.lt
                                have z_10 := z_9.below g10 z_9.lt
                                have px_10 := px_9.below g10
                                have py_10 := py_9.below g10
                                have pz_10 := pz_9.below g10
                                have q_10 := (g10.cell (p := ⟨b, off, none⟩) lq_9).trans q_9
                                have lq_10 := Nat.lt_of_lt_of_le lq_9 g10.size
                                clear p_9 x_9 y_9 z_9 px_9 py_9 pz_9 q_9 lq_9
                                have HS := Lib.hid (cb_same v10 pz_10 (HPV.out _ B10) HL6.out HZ.out)
                                go_wp2_with (first
                                  | (refine wpListG_load (by rfl) 24 (.tmp 14) rfl (v7.heap.size) rfl 24 #[.slice A3 m3 c3] _ z_10 Tryz.underlying24 rfl (po_info _ _ _) ?_)
                                  | (refine wpListG_load (by rfl) 24 (.tmp 3) rfl (w.heap.size) rfl 24 #[.slice A m c] _ p_10 Tryz.underlying24 rfl (po_info _ _ _) ?_)
                                  | (refine HS.out.mono ?_
                                     clear HS
                                     rintro e v11 ⟨rfl, g11⟩
                                     have B11 := B10.trans (g11.mono B10.size)
                                     have p_11 := p_10.below g11 p_10.lt
                                     have x_11 := x_10.below g11 x_10.lt
                                     have y_11 := y_10.below g11 y_10.lt
                                     have z_11 := z_10.below g11 z_10.lt
                                     have px_11 := px_10.below g11
                                     have py_11 := py_10.below g11
                                     have pz_11 := pz_10.below g11
                                     have q_11 := (g11.cell (p := ⟨b, off, none⟩) lq_10).trans q_10
                                     have lq_11 := Nat.lt_of_lt_of_le lq_10 g11.size
                                     clear p_10 x_10 y_10 z_10 px_10 py_10 pz_10 q_10 lq_10
                                     have HV := Lib.hid (cb_check v11 (HKW.out _ B11) py_11 HY.out.2.2.2.2.1)
                                     rw [HY.out.1] at HV
                                     go_wp2_with (first
                                       | (refine wpListG_load (by rfl) 24 (.tmp 12) rfl (v5.heap.size) rfl 24 #[.slice A2 m2 c2] _ y_11 Tryz.underlying24 rfl (po_info _ _ _) ?_)
                                       | (refine HV.out.mono ?_
                                          clear HV
                                          rintro e v12 ⟨rfl, g12⟩
                                          have B12 := B11.trans (g12.mono B11.size)
                                          have p_12 := p_11.below g12 p_11.lt
                                          have x_12 := x_11.below g12 x_11.lt
                                          have y_12 := y_11.below g12 y_11.lt
                                          have z_12 := z_11.below g12 z_11.lt
                                          have px_12 := px_11.below g12
                                          have py_12 := py_11.below g12
                                          have pz_12 := pz_11.below g12
                                          have q_12 := (g12.cell (p := ⟨b, off, none⟩) lq_11).trans q_11
                                          have lq_12 := Nat.lt_of_lt_of_le lq_11 g12.size
                                          clear p_11 x_11 y_11 z_11 px_11 py_11 pz_11 q_11 lq_11
                                          go_wp2_with fail))))))))))))))))
  go_ret
  exact ⟨by first | rfl | simp, B12⟩
set_option maxRecDepth 100000 in
set_option maxHeartbeats 16000000 in
theorem back_none (A : Option Addr) (m c : Nat) (L : List Nl) (pa : Int) (G : Option Addr) (gm gc : Nat) (w : World) (hK : HK w) (hPa : Pa w w.heap.size A L) (hm : m = L.length) (hmc : m ≤ c) (ho : overB L = false) (hPo : Po w w.heap.size A L) (hgl : gm ≤ 300) (g : List Ins) (hgm : gm = g.length) (hG : Ri w w.heap.size G g.length (gF g)) (hgo : ∀ q ∈ g, insO q) (hgc : gm ≤ gc) (hpi : I64 pa) (hp : ¬ pa = 0) (hno : ¬ chkP L = 0 ∨ PlaceR L pa (-1)) :
    Calls Tryz.prog 6 #[poV A m c, .int .i64 pa, .slice G gm gc] w fun e w' => e = .returned (.bool true) ∧ Below w.heap.size w w' := by
  obtain ⟨W0, hW0⟩ : ∃ W0, W0 = w.alloc (.cells #[.slice A m c] 24) := ⟨_, rfl⟩
  have k0 : Blk W0 w.heap.size #[.slice A m c] 24 := by rw [hW0]; exact Blk.new w _ _
  have B0 : Below w.heap.size w W0 := by rw [hW0]; exact (Below.refl w.heap.size w).alloc (Nat.le_refl _) _
  have HKW := Lib.hid (fun V (h : Below w.heap.size w V) => hK.below h (Nat.le_refl _))
  have HWK := Lib.hid (fun V (h : Below w.heap.size w V) => wakes9_any V (HKW.out V h))
  have HOV := Lib.hid (fun V (h : Below w.heap.size w V) => over_any A m c L V (fun k hk => by obtain ⟨b, off, e, h1, h2⟩ := (hPa.below h (Nat.le_refl _)) k hk; exact ⟨b, off, e, Nat.lt_of_lt_of_le h1 h.size, h2⟩) hm hmc)
  rw [ho] at HOV
  have HPV := Lib.hid (fun V (h : Below w.heap.size w V) => (⟨(hPo.below h (Nat.le_refl _)).more h.size, hm, hmc⟩ : Pk V A m c L))
  have HLL : Hid (L.length ≤ 60) := Lib.hid (over_false ho).1
  have HL6 : Hid (L.length ≤ 1000) := Lib.hid (by have := (over_false ho).1; omega)
  have HS3 : Hid (∀ x ∈ L, x.1.g.length ≤ 300) := Lib.hid (fun x hx => by have := ((over_false ho).2 x hx).1; omega)
  subst hgm
  have HGV := Lib.hid (fun V (h : Below w.heap.size w V) => (hG.below h (Nat.le_refl _)).more h.size)
  have HGO := Lib.hid hgo
  have HGL := Lib.hid hgl
  have HGC := Lib.hid hgc
  have hgd : decide ((300 : Int) < (g.length : Int)) = false := by simp; omega
  clear hG hgo hgl hgc ho hPo
  have HPI := Lib.hid hpi
  have hp0 : (pa == 0) = false := by simpa using hp
  have hpn : (pa != 0) = true := by simpa using hp
  clear hp hpi
  have HNO := Lib.hid hno
  obtain ⟨er, her⟩ : ∃ er, (if chkP L = 0 then (4 : Int) else chkP L) = er := ⟨_, rfl⟩
  have hern : (er != 0) = true := by rw [← her]; split; exact rfl; exact bne_iff_ne.2 (by assumption)
  have HER := Lib.hid her
  clear hno her
  unfold poV at *
  clear hPa hm hmc hK
  subst hW0
  have HW := Lib.hid (HWK.out _ B0)
  go_enter Tryz.func6, Tryz.ntmps6
  go_wp2_with (first
    | (refine HW.out.mono ?_
       clear HW
       rintro e v1 ⟨rfl, g1⟩
       have B1 := B0.trans (g1.mono B0.size)
       have p_1 := k0.below g1 k0.lt
       clear k0
       have HO := Lib.hid (HOV.out _ B1)
       go_wp2_with (first
         | (refine wpListG_load (by rfl) 24 (.tmp 3) rfl (w.heap.size) rfl 24 #[.slice A m c] _ p_1 Tryz.underlying24 rfl (po_info _ _ _) ?_)
         | (refine HO.out.mono ?_
            clear HO
            rintro e v2 ⟨rfl, g2⟩
            have B2 := B1.trans (g2.mono B1.size)
            have p_2 := p_1.below g2 p_1.lt
            clear p_1
            have HT := Lib.hid (cb_take_no v2 (HKW.out _ B2) (HPV.out _ B2) HL6.out HS3.out HNO.out)
            rw [HER.out] at HT
            go_wp2_with (first
              | (refine wpListG_load (by rfl) 24 (.tmp 3) rfl (w.heap.size) rfl 24 #[.slice A m c] _ p_2 Tryz.underlying24 rfl (po_info _ _ _) ?_)
              | (refine HT.out.mono ?_
                 clear HT
                 rintro e v3 ⟨rfl, g3⟩
                 have B3 := B2.trans (g3.mono B2.size)
                 have p_3 := p_2.below g3 p_2.lt
                 clear p_2
                 go_wp2_with (first
                   | (refine wpList_store_blk rfl 24 (.tmp 7) (.tmp 33) rfl v3.heap.size #[.slice none 0 0] #[.slice none 0 0] 24 rfl rfl (Blk.new _ _ _) rfl (po_info _ _ _) (by simp [Value.oneCell']) ?_
                      intro v4 x_4 h4
                      have g4 := newP rfl h4
                      have B4 := B3.trans (g4.mono B3.size)
                      have p_4 := p_3.below g4 p_3.lt
                      clear p_3
                      clear h4
                      have q7 : v4.cell? ⟨v3.heap.size, 0, none⟩ = some (.slice none 0 0) := x_4.cell 0
                      go_wp2_with fail))))))))
  go_ret
  exact ⟨by first | rfl | simp, B4⟩
set_option maxRecDepth 100000 in
set_option maxHeartbeats 16000000 in
theorem back_full (A : Option Addr) (m c : Nat) (L : List Nl) (pa : Int) (G : Option Addr) (gm gc : Nat) (w : World) (hK : HK w) (hPa : Pa w w.heap.size A L) (hm : m = L.length) (hmc : m ≤ c) (ho : overB L = false) (hPo : Po w w.heap.size A L) (hgl : gm ≤ 300) (g : List Ins) (hgm : gm = g.length) (hG : Ri w w.heap.size G g.length (gF g)) (hgo : ∀ q ∈ g, insO q) (hgc : gm ≤ gc) (hpi : I64 pa) (hp : ¬ pa = 0) (hc : chkP L = 0) (k : Nat) (hpl : PlaceR L pa k) (hE : ¬ freshE L pa g = 0) :
    Calls Tryz.prog 6 #[poV A m c, .int .i64 pa, .slice G gm gc] w fun e w' => e = .returned (.bool true) ∧ Below w.heap.size w w' := by
  obtain ⟨W0, hW0⟩ : ∃ W0, W0 = w.alloc (.cells #[.slice A m c] 24) := ⟨_, rfl⟩
  have k0 : Blk W0 w.heap.size #[.slice A m c] 24 := by rw [hW0]; exact Blk.new w _ _
  have B0 : Below w.heap.size w W0 := by rw [hW0]; exact (Below.refl w.heap.size w).alloc (Nat.le_refl _) _
  have HKW := Lib.hid (fun V (h : Below w.heap.size w V) => hK.below h (Nat.le_refl _))
  have HWK := Lib.hid (fun V (h : Below w.heap.size w V) => wakes9_any V (HKW.out V h))
  have HOV := Lib.hid (fun V (h : Below w.heap.size w V) => over_any A m c L V (fun k hk => by obtain ⟨b, off, e, h1, h2⟩ := (hPa.below h (Nat.le_refl _)) k hk; exact ⟨b, off, e, Nat.lt_of_lt_of_le h1 h.size, h2⟩) hm hmc)
  rw [ho] at HOV
  have HPV := Lib.hid (fun V (h : Below w.heap.size w V) => (⟨(hPo.below h (Nat.le_refl _)).more h.size, hm, hmc⟩ : Pk V A m c L))
  have HLL : Hid (L.length ≤ 60) := Lib.hid (over_false ho).1
  have HL6 : Hid (L.length ≤ 1000) := Lib.hid (by have := (over_false ho).1; omega)
  have HS3 : Hid (∀ x ∈ L, x.1.g.length ≤ 300) := Lib.hid (fun x hx => by have := ((over_false ho).2 x hx).1; omega)
  have HK2 : Hid ((L.getD k nl0).1.k ≤ 1099511627776) := Lib.hid (((over_false ho).2 _ (getD_mem (place_nat hpl).1)).2)
  have HPL := Lib.hid hpl
  have HC0 := Lib.hid hc
  have HFL := Lib.hid hE
  clear hpl hc hE
  subst hgm
  have HGV := Lib.hid (fun V (h : Below w.heap.size w V) => (hG.below h (Nat.le_refl _)).more h.size)
  have HGO := Lib.hid hgo
  have HGL := Lib.hid hgl
  have HGC := Lib.hid hgc
  have hgd : decide ((300 : Int) < (g.length : Int)) = false := by simp; omega
  clear hG hgo hgl hgc ho hPo
  have HPI := Lib.hid hpi
  have hp0 : (pa == 0) = false := by simpa using hp
  have hpn : (pa != 0) = true := by simpa using hp
  clear hp hpi
  unfold poV at *
  clear hPa hm hmc hK
  subst hW0
  have HW := Lib.hid (HWK.out _ B0)
  go_enter Tryz.func6, Tryz.ntmps6
  go_wp2_with (first
    | (refine HW.out.mono ?_
       clear HW
       rintro e v1 ⟨rfl, g1⟩
       have B1 := B0.trans (g1.mono B0.size)
       have p_1 := k0.below g1 k0.lt
       clear k0
       have HO := Lib.hid (HOV.out _ B1)
       go_wp2_with (first
         | (refine wpListG_load (by rfl) 24 (.tmp 3) rfl (w.heap.size) rfl 24 #[.slice A m c] _ p_1 Tryz.underlying24 rfl (po_info _ _ _) ?_)
         | (refine HO.out.mono ?_
            clear HO
            rintro e v2 ⟨rfl, g2⟩
            have B2 := B1.trans (g2.mono B1.size)
            have p_2 := p_1.below g2 p_1.lt
            clear p_1
            have HT := Lib.hid (cb_take_ok v2 (HKW.out _ B2) (HPV.out _ B2) HL6.out HS3.out HC0.out HPL.out)
            go_wp2_with (first
              | (refine wpListG_load (by rfl) 24 (.tmp 3) rfl (w.heap.size) rfl 24 #[.slice A m c] _ p_2 Tryz.underlying24 rfl (po_info _ _ _) ?_)
              | (refine HT.out.mono ?_
                 clear HT
                 rintro e v3 ⟨A1, m1, c1, X, rfl, px, hX, g3⟩
                 have B3 := B2.trans (g3.mono B2.size)
                 have p_3 := p_2.below g3 p_2.lt
                 clear p_2
                 have HX := Lib.hid hX
                 clear hX
                 go_wp2_with (first
                   | (refine wpList_store_blk rfl 24 (.tmp 7) (.tmp 33) rfl v3.heap.size #[.slice none 0 0] #[.slice A1 m1 c1] 24 rfl rfl (Blk.new _ _ _) rfl (po_info _ _ _) (by simp [Value.oneCell']) ?_
                      intro v4 x_4 h4
                      have g4 := newP rfl h4
                      have B4 := B3.trans (g4.mono B3.size)
                      have p_4 := p_3.below g4 p_3.lt
                      have px_4 := px.below g4
                      clear p_3 px
                      clear h4
                      have hXs := short_set (place_nat HPL.out).1 HX.out HS3.out
                      have HXS := Lib.hid (⟨by rw [hXs.1]; exact HL6.out, hXs.2⟩ : X.length ≤ 1000 ∧ ∀ x ∈ X, x.1.g.length ≤ 300)
                      have HXL : Hid (X.length ≤ 60) := Lib.hid (by rw [hXs.1]; exact HLL.out)
                      clear hXs
                      have HB := Lib.hid (bk_take HC0.out HPL.out HK2.out HX.out)
                      have hTG := take_give HC0.out HPL.out HK2.out HX.out
                      have HTG := Lib.hid hTG
                      clear hTG
                      have hcore : X.map (fun x => coreN x.1) = L.map (fun x => coreN x.1) := (core_names (tk_names HX.out (kc HC0.out (place_nat HPL.out).1).1 HK2.out)).trans (core_set (place_nat HPL.out).1 _).symm
                      have hfe0 := freshE_core hcore pa g
                      clear hcore
                      have HFE := Lib.hid (show ¬ freshE X pa g = 0 by rw [hfe0]; exact HFL.out)
                      clear hfe0
                      have HG1 := Lib.hid (cb_give1 (L := L) v4 (HKW.out _ B4) px_4 HXS.out.1 HXS.out.2 HB.out.chk HTG.out.1 HTG.out.2)
                      go_wp2_with (first
                        | (refine wpListG_load (by rfl) 24 (.tmp 7) rfl (v3.heap.size) rfl 24 #[.slice A1 m1 c1] _ x_4 Tryz.underlying24 rfl (po_info _ _ _) ?_)
                        | (refine HG1.out.mono ?_
                           clear HG1
                           rintro e v5 ⟨A4, m4, c4, G4, gc4, Y4, rfl, p4, hY4, g5⟩
                           have B5 := B4.trans (g5.mono B4.size)
                           have p_5 := p_4.below g5 p_4.lt
                           have x_5 := x_4.below g5 x_4.lt
                           have px_5 := px_4.below g5
                           clear p_4 x_4 px_4
                           have HY4 := Lib.hid hY4
                           clear hY4
                           go_wp2_with (first
                             | (refine wpList_store_blk rfl 24 (.tmp 9) (.tmp 56) rfl v5.heap.size #[.slice none 0 0] #[.slice A4 m4 c4] 24 rfl rfl (Blk.new _ _ _) rfl (po_info _ _ _) (by simp [Value.oneCell']) ?_
                                intro v6 y4_6 h6
                                have g6 := newP rfl h6
                                have B6 := B5.trans (g6.mono B5.size)
                                have p_6 := p_5.below g6 p_5.lt
                                have x_6 := x_5.below g6 x_5.lt
                                have px_6 := px_5.below g6
                                have p4_6 := p4.below g6
                                clear p_5 x_5 px_5 p4
                                clear h6
                                have HS4 := Lib.hid (cb_same v6 p4_6 (HPV.out _ B6) HL6.out HY4.out)
                                go_wp2_with (first
                                  | (refine wpListG_load (by rfl) 24 (.tmp 9) rfl (v5.heap.size) rfl 24 #[.slice A4 m4 c4] _ y4_6 Tryz.underlying24 rfl (po_info _ _ _) ?_)
                                  | (refine wpListG_load (by rfl) 24 (.tmp 3) rfl (w.heap.size) rfl 24 #[.slice A m c] _ p_6 Tryz.underlying24 rfl (po_info _ _ _) ?_)
                                  | (refine HS4.out.mono ?_
                                     clear HS4
                                     rintro e v7 ⟨rfl, g7⟩
                                     have B7 := B6.trans (g7.mono B6.size)
                                     have p_7 := p_6.below g7 p_6.lt
                                     have x_7 := x_6.below g7 x_6.lt
                                     have y4_7 := y4_6.below g7 y4_6.lt
                                     have px_7 := px_6.below g7
                                     have p4_7 := p4_6.below g7
                                     clear p_6 x_6 y4_6 px_6 p4_6
                                     have HA := Lib.hid (cb_add_no v7 (HKW.out _ B7) px_7 HXS.out.1 HXS.out.2 HPI.out ((HGV.out _ B7)) HGO.out HGL.out HGC.out HB.out.chk HFE.out)
                                     generalize freshE X pa g = fe at HA HFE
                                     have hfe : (fe != 0) = true := by simpa using HFE.out
                                     go_wp2_with (first
                                       | (refine wpListG_load (by rfl) 24 (.tmp 7) rfl (v3.heap.size) rfl 24 #[.slice A1 m1 c1] _ x_7 Tryz.underlying24 rfl (po_info _ _ _) ?_)
                                       | (refine HA.out.mono ?_
                                          clear HA
                                          rintro e v8 ⟨rfl, g8⟩
                                          have B8 := B7.trans (g8.mono B7.size)
                                          have p_8 := p_7.below g8 p_7.lt
                                          have x_8 := x_7.below g8 x_7.lt
                                          have y4_8 := y4_7.below g8 y4_7.lt
                                          have px_8 := px_7.below g8
                                          have p4_8 := p4_7.below g8
                                          clear p_7 x_7 y4_7 px_7 p4_7
                                          go_wp2_with (first
                                            | (refine wpList_store_blk rfl 24 (.tmp 12) (.tmp 77) rfl v8.heap.size #[.slice none 0 0] #[.slice none 0 0] 24 rfl rfl (Blk.new _ _ _) rfl (po_info _ _ _) (by simp [Value.oneCell']) ?_
                                               intro v9 y_9 h9
                                               have g9 := newP rfl h9
                                               have B9 := B8.trans (g9.mono B8.size)
                                               have p_9 := p_8.below g9 p_8.lt
                                               have x_9 := x_8.below g9 x_8.lt
                                               have y4_9 := y4_8.below g9 y4_8.lt
                                               have px_9 := px_8.below g9
                                               have p4_9 := p4_8.below g9
                                               clear p_8 x_8 y4_8 px_8 p4_8
                                               clear h9
                                               have q12 : v9.cell? ⟨v8.heap.size, 0, none⟩ = some (.slice none 0 0) := y_9.cell 0
                                               go_wp2_with fail))))))))))))))))))
  go_ret
  exact ⟨by first | rfl | simp, B9⟩
set_option maxRecDepth 100000 in
set_option maxHeartbeats 16000000 in
theorem back_ok (A : Option Addr) (m c : Nat) (L : List Nl) (pa : Int) (G : Option Addr) (gm gc : Nat) (w : World) (hK : HK w) (hPa : Pa w w.heap.size A L) (hm : m = L.length) (hmc : m ≤ c) (ho : overB L = false) (hPo : Po w w.heap.size A L) (hgl : gm ≤ 300) (g : List Ins) (hgm : gm = g.length) (hG : Ri w w.heap.size G g.length (gF g)) (hgo : ∀ q ∈ g, insO q) (hgc : gm ≤ gc) (hpi : I64 pa) (hp : ¬ pa = 0) (hc : chkP L = 0) (k : Nat) (hpl : PlaceR L pa k) (hE : freshE L pa g = 0) :
    Calls Tryz.prog 6 #[poV A m c, .int .i64 pa, .slice G gm gc] w fun e w' => e = .returned (.bool true) ∧ Below w.heap.size w w' := by
  obtain ⟨W0, hW0⟩ : ∃ W0, W0 = w.alloc (.cells #[.slice A m c] 24) := ⟨_, rfl⟩
  have k0 : Blk W0 w.heap.size #[.slice A m c] 24 := by rw [hW0]; exact Blk.new w _ _
  have B0 : Below w.heap.size w W0 := by rw [hW0]; exact (Below.refl w.heap.size w).alloc (Nat.le_refl _) _
  have HKW := Lib.hid (fun V (h : Below w.heap.size w V) => hK.below h (Nat.le_refl _))
  have HWK := Lib.hid (fun V (h : Below w.heap.size w V) => wakes9_any V (HKW.out V h))
  have HOV := Lib.hid (fun V (h : Below w.heap.size w V) => over_any A m c L V (fun k hk => by obtain ⟨b, off, e, h1, h2⟩ := (hPa.below h (Nat.le_refl _)) k hk; exact ⟨b, off, e, Nat.lt_of_lt_of_le h1 h.size, h2⟩) hm hmc)
  rw [ho] at HOV
  have HPV := Lib.hid (fun V (h : Below w.heap.size w V) => (⟨(hPo.below h (Nat.le_refl _)).more h.size, hm, hmc⟩ : Pk V A m c L))
  have HLL : Hid (L.length ≤ 60) := Lib.hid (over_false ho).1
  have HL6 : Hid (L.length ≤ 1000) := Lib.hid (by have := (over_false ho).1; omega)
  have HS3 : Hid (∀ x ∈ L, x.1.g.length ≤ 300) := Lib.hid (fun x hx => by have := ((over_false ho).2 x hx).1; omega)
  have HK2 : Hid ((L.getD k nl0).1.k ≤ 1099511627776) := Lib.hid (((over_false ho).2 _ (getD_mem (place_nat hpl).1)).2)
  have HPL := Lib.hid hpl
  have HC0 := Lib.hid hc
  have HFL := Lib.hid hE
  clear hpl hc hE
  subst hgm
  have HGV := Lib.hid (fun V (h : Below w.heap.size w V) => (hG.below h (Nat.le_refl _)).more h.size)
  have HGO := Lib.hid hgo
  have HGL := Lib.hid hgl
  have HGC := Lib.hid hgc
  have hgd : decide ((300 : Int) < (g.length : Int)) = false := by simp; omega
  clear hG hgo hgl hgc ho hPo
  have HPI := Lib.hid hpi
  have hp0 : (pa == 0) = false := by simpa using hp
  have hpn : (pa != 0) = true := by simpa using hp
  clear hp hpi
  unfold poV at *
  clear hPa hm hmc hK
  subst hW0
  have HW := Lib.hid (HWK.out _ B0)
  go_enter Tryz.func6, Tryz.ntmps6
  go_wp2_with (first
    | (refine HW.out.mono ?_
       clear HW
       rintro e v1 ⟨rfl, g1⟩
       have B1 := B0.trans (g1.mono B0.size)
       have p_1 := k0.below g1 k0.lt
       clear k0
       have HO := Lib.hid (HOV.out _ B1)
       go_wp2_with (first
         | (refine wpListG_load (by rfl) 24 (.tmp 3) rfl (w.heap.size) rfl 24 #[.slice A m c] _ p_1 Tryz.underlying24 rfl (po_info _ _ _) ?_)
         | (refine HO.out.mono ?_
            clear HO
            rintro e v2 ⟨rfl, g2⟩
            have B2 := B1.trans (g2.mono B1.size)
            have p_2 := p_1.below g2 p_1.lt
            clear p_1
            have HT := Lib.hid (cb_take_ok v2 (HKW.out _ B2) (HPV.out _ B2) HL6.out HS3.out HC0.out HPL.out)
            go_wp2_with (first
              | (refine wpListG_load (by rfl) 24 (.tmp 3) rfl (w.heap.size) rfl 24 #[.slice A m c] _ p_2 Tryz.underlying24 rfl (po_info _ _ _) ?_)
              | (refine HT.out.mono ?_
                 clear HT
                 rintro e v3 ⟨A1, m1, c1, X, rfl, px, hX, g3⟩
                 have B3 := B2.trans (g3.mono B2.size)
                 have p_3 := p_2.below g3 p_2.lt
                 clear p_2
                 have HX := Lib.hid hX
                 clear hX
                 go_wp2_with (first
                   | (refine wpList_store_blk rfl 24 (.tmp 7) (.tmp 33) rfl v3.heap.size #[.slice none 0 0] #[.slice A1 m1 c1] 24 rfl rfl (Blk.new _ _ _) rfl (po_info _ _ _) (by simp [Value.oneCell']) ?_
                      intro v4 x_4 h4
                      have g4 := newP rfl h4
                      have B4 := B3.trans (g4.mono B3.size)
                      have p_4 := p_3.below g4 p_3.lt
                      have px_4 := px.below g4
                      clear p_3 px
                      clear h4
                      have hXs := short_set (place_nat HPL.out).1 HX.out HS3.out
                      have HXS := Lib.hid (⟨by rw [hXs.1]; exact HL6.out, hXs.2⟩ : X.length ≤ 1000 ∧ ∀ x ∈ X, x.1.g.length ≤ 300)
                      have HXL : Hid (X.length ≤ 60) := Lib.hid (by rw [hXs.1]; exact HLL.out)
                      clear hXs
                      have HB := Lib.hid (bk_take HC0.out HPL.out HK2.out HX.out)
                      have hTG := take_give HC0.out HPL.out HK2.out HX.out
                      have HTG := Lib.hid hTG
                      clear hTG
                      have hcore : X.map (fun x => coreN x.1) = L.map (fun x => coreN x.1) := (core_names (tk_names HX.out (kc HC0.out (place_nat HPL.out).1).1 HK2.out)).trans (core_set (place_nat HPL.out).1 _).symm
                      have hfe0 := freshE_core hcore pa g
                      clear hcore
                      have HFE := Lib.hid (hfe0.trans HFL.out)
                      clear hfe0
                      have HG1 := Lib.hid (cb_give1 (L := L) v4 (HKW.out _ B4) px_4 HXS.out.1 HXS.out.2 HB.out.chk HTG.out.1 HTG.out.2)
                      go_wp2_with (first
                        | (refine wpListG_load (by rfl) 24 (.tmp 7) rfl (v3.heap.size) rfl 24 #[.slice A1 m1 c1] _ x_4 Tryz.underlying24 rfl (po_info _ _ _) ?_)
                        | (refine HG1.out.mono ?_
                           clear HG1
                           rintro e v5 ⟨A4, m4, c4, G4, gc4, Y4, rfl, p4, hY4, g5⟩
                           have B5 := B4.trans (g5.mono B4.size)
                           have p_5 := p_4.below g5 p_4.lt
                           have x_5 := x_4.below g5 x_4.lt
                           have px_5 := px_4.below g5
                           clear p_4 x_4 px_4
                           have HY4 := Lib.hid hY4
                           clear hY4
                           go_wp2_with (first
                             | (refine wpList_store_blk rfl 24 (.tmp 9) (.tmp 56) rfl v5.heap.size #[.slice none 0 0] #[.slice A4 m4 c4] 24 rfl rfl (Blk.new _ _ _) rfl (po_info _ _ _) (by simp [Value.oneCell']) ?_
                                intro v6 y4_6 h6
                                have g6 := newP rfl h6
                                have B6 := B5.trans (g6.mono B5.size)
                                have p_6 := p_5.below g6 p_5.lt
                                have x_6 := x_5.below g6 x_5.lt
                                have px_6 := px_5.below g6
                                have p4_6 := p4.below g6
                                clear p_5 x_5 px_5 p4
                                clear h6
                                have HS4 := Lib.hid (cb_same v6 p4_6 (HPV.out _ B6) HL6.out HY4.out)
                                go_wp2_with (first
                                  | (refine wpListG_load (by rfl) 24 (.tmp 9) rfl (v5.heap.size) rfl 24 #[.slice A4 m4 c4] _ y4_6 Tryz.underlying24 rfl (po_info _ _ _) ?_)
                                  | (refine wpListG_load (by rfl) 24 (.tmp 3) rfl (w.heap.size) rfl 24 #[.slice A m c] _ p_6 Tryz.underlying24 rfl (po_info _ _ _) ?_)
                                  | (refine HS4.out.mono ?_
                                     clear HS4
                                     rintro e v7 ⟨rfl, g7⟩
                                     have B7 := B6.trans (g7.mono B6.size)
                                     have p_7 := p_6.below g7 p_6.lt
                                     have x_7 := x_6.below g7 x_6.lt
                                     have y4_7 := y4_6.below g7 y4_6.lt
                                     have px_7 := px_6.below g7
                                     have p4_7 := p4_6.below g7
                                     clear p_6 x_6 y4_6 px_6 p4_6
                                     have HA := Lib.hid (cb_add_ok v7 (HKW.out _ B7) px_7 HXS.out.1 HXS.out.2 HPI.out ((HGV.out _ B7)) HGO.out HGL.out HGC.out HB.out.chk HFE.out)
                                     go_wp2_with (first
                                       | (refine wpListG_load (by rfl) 24 (.tmp 7) rfl (v3.heap.size) rfl 24 #[.slice A1 m1 c1] _ x_7 Tryz.underlying24 rfl (po_info _ _ _) ?_)
                                       | (refine HA.out.mono ?_
                                          clear HA
                                          rintro e v8 ⟨A2, m2, c2, Y, rfl, py, hY, g8⟩
                                          have B8 := B7.trans (g8.mono B7.size)
                                          have p_8 := p_7.below g8 p_7.lt
                                          have x_8 := x_7.below g8 x_7.lt
                                          have y4_8 := y4_7.below g8 y4_7.lt
                                          have px_8 := px_7.below g8
                                          have p4_8 := p4_7.below g8
                                          clear p_7 x_7 y4_7 px_7 p4_7
                                          obtain ⟨j, hj, hjn⟩ := hY
                                          obtain ⟨hyc, hyh, hyg, hyb⟩ := add_give HB.out HFE.out hj hjn
                                          have hjk : j ≤ X.length := (by obtain ⟨j2, e2, l2⟩ := fresh_at HFE.out; have e3 : j = j2 := (by have := hj.symm.trans e2; omega); rw [e3]; exact l2)
                                          have hyl := len_ins hjn hjk
                                          clear hjk
                                          have hys := short_ins hjn (by rw [freshN_g HFE.out]; exact HGL.out) HXS.out.2
                                          have HY := Lib.hid (⟨hyc, hyh, hyg, hyb, by rw [hyl]; have := HXL.out; omega, hys⟩ : chkP Y = 0 ∧ honP Y = honP L ∧ giveE Y (freshN X pa g).i = 0 ∧ (∀ (Y1 U L2 : List Nl), Y1.map (·.1) = Y.map (·.1) → Up Y1 (freshN X pa g).i U → GvL Y1 U L2 → (goneU U).map (fun x => x.1.i) = [(freshN X pa g).i] ∧ L2.map (·.1) = L.map (·.1)) ∧ Y.length ≤ 1000 ∧ ∀ x ∈ Y, x.1.g.length ≤ 300)
                                          clear hyc hyh hyg hyb hyl hys hjn hj
                                          obtain ⟨idn, hidn⟩ : ∃ i, (freshN X pa g).i = i := ⟨_, rfl⟩
                                          rw [hidn] at HY ⊢
                                          clear hidn
                                          go_wp2_with (first
                                            | (refine wpList_store_blk rfl 24 (.tmp 12) (.tmp 77) rfl v8.heap.size #[.slice none 0 0] #[.slice A2 m2 c2] 24 rfl rfl (Blk.new _ _ _) rfl (po_info _ _ _) (by simp [Value.oneCell']) ?_
                                               intro v9 y_9 h9
                                               have g9 := newP rfl h9
                                               have B9 := B8.trans (g9.mono B8.size)
                                               have p_9 := p_8.below g9 p_8.lt
                                               have x_9 := x_8.below g9 x_8.lt
                                               have y4_9 := y4_8.below g9 y4_8.lt
                                               have px_9 := px_8.below g9
                                               have p4_9 := p4_8.below g9
                                               have py_9 := py.below g9
                                               clear p_8 x_8 y4_8 px_8 p4_8 py
                                               clear h9
                                               have HG := Lib.hid (cb_give2 (L := L) v9 (HKW.out _ B9) py_9 HY.out.2.2.2.2.1 HY.out.2.2.2.2.2 HY.out.1 HY.out.2.2.1 HY.out.2.2.2.1)
                                               go_wp2_with (first
                                                 | (refine wpListG_load (by rfl) 24 (.tmp 12) rfl (v8.heap.size) rfl 24 #[.slice A2 m2 c2] _ y_9 Tryz.underlying24 rfl (po_info _ _ _) ?_)
                                                 | (refine HG.out.mono ?_
                                                    clear HG
                                                    rintro e v10 ⟨A3, m3, c3, b, off, gc3, Z, rfl, pz, hZ, hbl, hc3, g10⟩
                                                    have B10 := B9.trans (g10.mono B9.size)
                                                    have p_10 := p_9.below g10 p_9.lt
                                                    have x_10 := x_9.below g10 x_9.lt
                                                    have y4_10 := y4_9.below g10 y4_9.lt
                                                    have y_10 := y_9.below g10 y_9.lt
                                                    have px_10 := px_9.below g10
                                                    have p4_10 := p4_9.below g10
                                                    have py_10 := py_9.below g10
                                                    clear p_9 x_9 y4_9 y_9 px_9 p4_9 py_9
                                                    have HZ := Lib.hid hZ
                                                    clear hZ
                                                    go_wp2_with (first
                                                      | (refine wpList_store_blk rfl 24 (.tmp 14) (.tmp 94) rfl v10.heap.size #[.slice none 0 0] #[.slice A3 m3 c3] 24 rfl rfl (Blk.new _ _ _) rfl (po_info _ _ _) (by simp [Value.oneCell']) ?_
                                                         intro v11 z_11 h11
                                                         have g11 := newP rfl h11
                                                         have B11 := B10.trans (g11.mono B10.size)
                                                         have p_11 := p_10.below g11 p_10.lt
                                                         have x_11 := x_10.below g11 x_10.lt
                                                         have y4_11 := y4_10.below g11 y4_10.lt
                                                         have y_11 := y_10.below g11 y_10.lt
                                                         have px_11 := px_10.below g11
                                                         have p4_11 := p4_10.below g11
                                                         have py_11 := py_10.below g11
                                                         have pz_11 := pz.below g11
                                                         have q_11 := (g11.cell (p := ⟨b, off, none⟩) hbl).trans hc3
                                                         have lq_11 := Nat.lt_of_lt_of_le hbl g11.size
                                                         clear p_10 x_10 y4_10 y_10 px_10 p4_10 py_10 pz hc3 hbl
                                                         clear h11
                                                         have HH := Lib.hid (cb_honest v11 (HKW.out _ B11) (HPV.out _ B11) HL6.out HC0.out)
                                                         go_wp2_with (first
                                                           | (refine wpListG_load (by rfl) 24 (.tmp 3) rfl (w.heap.size) rfl 24 #[.slice A m c] _ p_11 Tryz.underlying24 rfl (po_info _ _ _) ?_)
                                                           | (refine HH.out.mono ?_
                                                              clear HH
                                                              rintro e v12 ⟨rfl, g12⟩
                                                              have B12 := B11.trans (g12.mono B11.size)
                                                              have p_12 := p_11.below g12 p_11.lt
                                                              have x_12 := x_11.below g12 x_11.lt
                                                              have y4_12 := y4_11.below g12 y4_11.lt
                                                              have y_12 := y_11.below g12 y_11.lt
                                                              have z_12 := z_11.below g12 z_11.lt
                                                              have px_12 := px_11.below g12
                                                              have p4_12 := p4_11.below g12
                                                              have py_12 := py_11.below g12
                                                              have pz_12 := pz_11.below g12
                                                              have q_12 := (g12.cell (p := ⟨b, off, none⟩) lq_11).trans q_11
                                                              have lq_12 := Nat.lt_of_lt_of_le lq_11 g12.size
                                                              clear p_11 x_11 y4_11 y_11 z_11 px_11 p4_11 py_11 pz_11 q_11 lq_11
                                                              have HI := Lib.hid (cb_honest v12 (HKW.out _ B12) py_12 HY.out.2.2.2.2.1 HY.out.1)
                                                              rw [HY.out.2.1] at HI
                                                              go_wp2_with (first
                                                                | (refine wpListG_load (by rfl) 24 (.tmp 12) rfl (v8.heap.size) rfl 24 #[.slice A2 m2 c2] _ y_12 Tryz.underlying24 rfl (po_info _ _ _) ?_)
                                                                | (refine HI.out.mono ?_
                                                                   clear HI
                                                                   rintro e v13 ⟨rfl, g13⟩
                                                                   have B13 := B12.trans (g13.mono B12.size)
                                                                   have p_13 := p_12.below g13 p_12.lt
                                                                   have x_13 := x_12.below g13 x_12.lt
                                                                   have y4_13 := y4_12.below g13 y4_12.lt
                                                                   have y_13 := y_12.below g13 y_12.lt
                                                                   have z_13 := z_12.below g13 z_12.lt
                                                                   have px_13 := px_12.below g13
                                                                   have p4_13 := p4_12.below g13
                                                                   have py_13 := py_12.below g13
                                                                   have pz_13 := pz_12.below g13
                                                                   have q_13 := (g13.cell (p := ⟨b, off, none⟩) lq_12).trans q_12
                                                                   have lq_13 := Nat.lt_of_lt_of_le lq_12 g13.size
                                                                   clear p_12 x_12 y4_12 y_12 z_12 px_12 p4_12 py_12 pz_12 q_12 lq_12
                                                                   have HS := Lib.hid (cb_same v13 pz_13 (HPV.out _ B13) HL6.out HZ.out)
                                                                   go_wp2_with (first
                                                                     | (refine wpListG_load (by rfl) 24 (.tmp 14) rfl (v10.heap.size) rfl 24 #[.slice A3 m3 c3] _ z_13 Tryz.underlying24 rfl (po_info _ _ _) ?_)
                                                                     | (refine wpListG_load (by rfl) 24 (.tmp 3) rfl (w.heap.size) rfl 24 #[.slice A m c] _ p_13 Tryz.underlying24 rfl (po_info _ _ _) ?_)
                                                                     | (refine HS.out.mono ?_
                                                                        clear HS
                                                                        rintro e v14 ⟨rfl, g14⟩
                                                                        have B14 := B13.trans (g14.mono B13.size)
                                                                        have p_14 := p_13.below g14 p_13.lt
                                                                        have x_14 := x_13.below g14 x_13.lt
                                                                        have y4_14 := y4_13.below g14 y4_13.lt
                                                                        have y_14 := y_13.below g14 y_13.lt
                                                                        have z_14 := z_13.below g14 z_13.lt
                                                                        have px_14 := px_13.below g14
                                                                        have p4_14 := p4_13.below g14
                                                                        have py_14 := py_13.below g14
                                                                        have pz_14 := pz_13.below g14
                                                                        have q_14 := (g14.cell (p := ⟨b, off, none⟩) lq_13).trans q_13
                                                                        have lq_14 := Nat.lt_of_lt_of_le lq_13 g14.size
                                                                        clear p_13 x_13 y4_13 y_13 z_13 px_13 p4_13 py_13 pz_13 q_13 lq_13
                                                                        have HV := Lib.hid (cb_check v14 (HKW.out _ B14) py_14 HY.out.2.2.2.2.1)
                                                                        rw [HY.out.1] at HV
                                                                        go_wp2_with (first
                                                                          | (refine wpListG_load (by rfl) 24 (.tmp 12) rfl (v8.heap.size) rfl 24 #[.slice A2 m2 c2] _ y_14 Tryz.underlying24 rfl (po_info _ _ _) ?_)
                                                                          | (refine HV.out.mono ?_
                                                                             clear HV
                                                                             rintro e v15 ⟨rfl, g15⟩
                                                                             have B15 := B14.trans (g15.mono B14.size)
                                                                             have p_15 := p_14.below g15 p_14.lt
                                                                             have x_15 := x_14.below g15 x_14.lt
                                                                             have y4_15 := y4_14.below g15 y4_14.lt
                                                                             have y_15 := y_14.below g15 y_14.lt
                                                                             have z_15 := z_14.below g15 z_14.lt
                                                                             have px_15 := px_14.below g15
                                                                             have p4_15 := p4_14.below g15
                                                                             have py_15 := py_14.below g15
                                                                             have pz_15 := pz_14.below g15
                                                                             have q_15 := (g15.cell (p := ⟨b, off, none⟩) lq_14).trans q_14
                                                                             have lq_15 := Nat.lt_of_lt_of_le lq_14 g15.size
                                                                             clear p_14 x_14 y4_14 y_14 z_14 px_14 p4_14 py_14 pz_14 q_14 lq_14
                                                                             go_wp2_with fail))))))))))))))))))))))))))))))
  go_ret
  exact ⟨by first | rfl | simp, B15⟩
theorem back_law (A : Option Addr) (m c : Nat) (L : List Nl) (pa : Int) (hpi : I64 pa) (G : Option Addr) (gm gc : Nat) (f : Nat → Ins) (w : World) (hK : HK w) (hPa : Pa w w.heap.size A L) (hNr : ∀ x ∈ L, x.1.g.length ≤ 1000000000 → Nr w w.heap.size x) (hm : m = L.length) (hmc : m ≤ c) (hG : Ri w w.heap.size G gm f) (hgc : gm ≤ gc) :
    Calls Tryz.prog 6 #[poV A m c, .int .i64 pa, .slice G gm gc] w fun e w' => e = .returned (.bool true) ∧ Below w.heap.size w w' := by
  cases ho : overB L
  · have hPo := po_of hPa hNr ho
    by_cases hgl : gm ≤ 300
    · obtain ⟨h1, h2⟩ := ri_list hG
      have hl : gm = ((List.range gm).map f).length := by simp
      generalize (List.range gm).map f = g at h1 h2 hl
      by_cases hp : pa = 0
      · by_cases hc : chkP L = 0
        · by_cases hE : freshE L pa g = 0
          · exact back_zero_ok A m c L pa G gm gc w hK hPa hm hmc ho hPo hgl g hl h1 h2 hgc hp hc hE
          · exact back_zero_full A m c L pa G gm gc w hK hPa hm hmc ho hPo hgl g hl h1 h2 hgc hp hc hE
        · exact back_zero_no A m c L pa G gm gc w hK hPa hm hmc ho hPo hgl g hl h1 h2 hgc hp hc
      · by_cases hc : chkP L = 0
        · rcases place_or L pa with ⟨k, hk⟩ | hk
          · by_cases hE : freshE L pa g = 0
            · exact back_ok A m c L pa G gm gc w hK hPa hm hmc ho hPo hgl g hl h1 h2 hgc hpi hp hc k hk hE
            · exact back_full A m c L pa G gm gc w hK hPa hm hmc ho hPo hgl g hl h1 h2 hgc hpi hp hc k hk hE
          · exact back_none A m c L pa G gm gc w hK hPa hm hmc ho hPo hgl g hl h1 h2 hgc hpi hp (.inr hk)
        · exact back_none A m c L pa G gm gc w hK hPa hm hmc ho hPo hgl g hl h1 h2 hgc hpi hp (.inl hc)
    · exact back_long A m c L pa G gm gc w hK hPa hm hmc ho hPo hgl
  · exact back_over A m c L pa G gm gc w hK hPa hm hmc ho
end Go.Proofs.YtelfdpcenplhjaaGreatDoor
