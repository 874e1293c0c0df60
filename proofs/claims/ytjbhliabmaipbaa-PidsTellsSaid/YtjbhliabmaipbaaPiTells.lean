/-
  The walk of PidsTells.
-/
import Derived.Test.YtjbhliabmaipbaaPiRi
import Derived.Deep.MidRow
namespace Go.Proofs.Ytjbhliabmaipbaa
open Go.RowKit Go.Shelf
set_option linter.unusedVariables false
set_option linter.unusedSimpArgs false

theorem region_cutZ {α : Type} {P : Program} {id : Nat} {ops : Array Oper} {dr : Bool} {Q : Exit → Act → World → Prop} {a : Act} {w : World} (F : α → Act) (H : α → World → Prop)
    (h1 : (Code.region id ops dr).wp P (fun e a' w' => e = .normal ∧ ∃ x, a' = F x ∧ H x w') a w) (h2 : ∀ x w', H x w' → Q .normal (F x) w') : (Code.region id ops dr).wp P Q a w :=
  Code.wp_mono (fun e a' w' h => by obtain ⟨he, x, ha, hg⟩ := h; subst he ha; exact h2 _ _ hg) h1
def SJ (w wr : World) (x : PidX) (V : World) : Prop := Below w.heap.size w V ∧ Blk V wr.heap.size (pdC x.1 x.2.1 x.2.2.1 x.2.2.2.1) 24
theorem SJ.step {w wr : World} {x : PidX} {V V' : World} (h : SJ w wr x V) (hb : Below V.heap.size V V') : SJ w wr x V' := ⟨h.1.trans (hb.mono h.1.size), h.2.below hb h.2.lt⟩
theorem SJ.but {w wr : World} {x : PidX} {V V' : World} {g : Nat} (h : SJ w wr x V) (n : But g V V') (hg : w.heap.size ≤ g) (hh : wr.heap.size < g) : SJ w wr x V' := ⟨h.1.trans (n.below _ hg h.1.size), n.blk7 h.2 (by omega)⟩
theorem pd_infL (q : PidX) : (Try.prog.info? 24).map (·.size) = some (pdC q.1 q.2.1 q.2.2.1 q.2.2.2.1).toList.length := by rw [Array.length_toList]; exact pd_inf _ _ _ _
structure TS (w : World) (x y : PidX) (A7 : Option Addr) (m7 c7 : Nat) (A8 : Option Addr) (m8 c8 g7 g8 : Nat) (lx ly : List Int) (V : World) : Prop where
  k7 : Blk V g7 (pdC x.1 A7 m7 c7) 24
  k8 : Blk V g8 (pdC y.1 A8 m8 c8) 24
  z7 : Zo V w.heap.size A7 m7 c7 lx
  z8 : Zo V w.heap.size A8 m8 c8 ly
  b : Below w.heap.size w V
theorem TS.step {w : World} {x y : PidX} {A7 : Option Addr} {m7 c7 : Nat} {A8 : Option Addr} {m8 c8 g7 g8 : Nat} {lx ly : List Int} {V V' : World} (h : TS w x y A7 m7 c7 A8 m8 c8 g7 g8 lx ly V) (bb : Below V.heap.size V V') : TS w x y A7 m7 c7 A8 m8 c8 g7 g8 lx ly V' :=
  ⟨h.k7.below bb h.k7.lt, h.k8.below bb h.k8.lt, h.z7.below bb (Nat.le_refl _), h.z8.below bb (Nat.le_refl _), h.b.trans (bb.mono h.b.size)⟩
set_option maxRecDepth 100000 in
set_option maxHeartbeats 40000000 in
theorem tells_law (A : Option Addr) (m c : Nat) (L : List PidX) (A0 : Option Addr) (m0 c0 : Nat) (os : List Int) (w : World) (hP : Pds w w.heap.size A L) (hm : m = L.length) (hmc : m ≤ c) (h62 : m ≤ 9223372036854775807) (hA0 : Ri7 w w.heap.size A0 os) (hm0 : m0 = os.length) (h63 : m0 ≤ 9223372036854775807) :
    Calls Try.prog 4 #[.slice A m c, .slice A0 m0 c0] w fun e w' => e = .returned (.bool true) ∧ Below w.heap.size w w' := by
  have B0 := Below.refl w.heap.size w
  have HM := Lib.hid hm
  have HM0 := Lib.hid hm0
  clear hm hm0
  go_enter Try.func4, Try.ntmps4
  go_wp2_with fail
  refine (wakes_pid _).mono ?_
  rintro e w1 ⟨rfl, bb⟩
  have b1 := B0.trans (bb.mono B0.size)
  clear bb B0
  go_wp2_with fail
  go_loopw [16] (fun kv wr' => ∃ (k : Nat) (wr : World), wr = wr' ∧ k ≤ m ∧ kv = .int .i64 k ∧ Below w.heap.size w wr) (fun kv _ => m - (intOf kv).toNat)
  case atStart => exact ⟨0, _, rfl, Nat.zero_le _, rfl, b1⟩
  case round =>
    clear b1
    obtain ⟨k, wr, hwr, hk, rfl, hB⟩ := hrel
    subst hwr
    by_cases hlt : k < m
    · have hlt' : (k : Int) < (m : Int) := by omega
      have hkl : k < L.length := by have := HM.out; omega
      have h0l : 0 < L.length := by omega
      obtain ⟨b, off, rfl, hb, hc, hr⟩ := hP k hkl
      obtain ⟨b', off', eb, hb0, hc0, hr0⟩ := hP 0 h0l
      cases eb
      have hcr : wr.rangeAt b (off + k * 2) _ := fun j v hv => (hB.cell (p := ⟨b, off + k * 2 + j, none⟩) hb).trans (hc j v hv)
      have hc0' : w.rangeAt b off (pdC (L.getD 0 pid0).1 (L.getD 0 pid0).2.1 (L.getD 0 pid0).2.2.1 (L.getD 0 pid0).2.2.2.1).toList := by rw [Nat.zero_mul, Nat.add_zero] at hc0; exact hc0
      generalize L.getD k pid0 = x at hr hcr
      generalize L.getD 0 pid0 = y at hr0 hc0'
      have HKM := Lib.hid hlt
      clear hkl h0l hc hc0 hlt
      cases h10 : ((k : Int) == 10)
      · go_wp2_with (first
          | (refine wpList_load_mid rfl 24 (.tmp 19) rfl b (off + k * 2) rfl (pdC x.1 x.2.1 x.2.2.1 x.2.2.2.1).toList _ hcr Try.underlying24 rfl (pd_infL x) ?_)
          | (refine wpList_store_blk rfl 24 (.tmp 6) (.tmp 20) rfl wr.heap.size (pdC 0 none 0 0) (pdC x.1 x.2.1 x.2.2.1 x.2.2.2.1) 24 rfl rfl (Blk.new _ _ _) rfl (pd_inf _ _ _ _) (pd_one _ _ _ _) ?_
             intro W1 k6 n1
             have bb : Below wr.heap.size wr W1 := new_blk n1
             have hB1 := hB.trans (bb.mono hB.size)
             clear bb n1))
        refine region_cutZ (α := Option Addr × Nat × Nat × Option Addr × Nat × Nat × Nat × Nat) (fun q => { tmps := #[.slice (some ⟨b, off, none⟩) m c, .slice A0 m0 c0, undef, undef, u4, .int .i64 k, .pointer (some ⟨wr.heap.size, 0, none⟩), .pointer (some ⟨q.2.2.2.2.2.2.1, 0, none⟩), .pointer (some ⟨q.2.2.2.2.2.2.2, 0, none⟩), u9, u10, u11, .bool true, .bool false, .slice (some ⟨b, off, none⟩) m c, .int .i64 m, .int .i64 k, .bool true, .int .i64 k, .pointer (some ⟨b, off + k * 2, none⟩), .agg (pdC x.1 x.2.1 x.2.2.1 x.2.2.2.1), .int .i64 k, .bool false, .agg (pdC x.1 x.2.1 x.2.2.1 x.2.2.2.1), .agg (pdC x.1 q.1 q.2.1 q.2.2.1), .slice (some ⟨b, off, none⟩) m c, .pointer (some ⟨b, off, none⟩), .agg (pdC y.1 y.2.1 y.2.2.1 y.2.2.2.1), .agg (pdC y.1 q.2.2.2.1 q.2.2.2.2.1 q.2.2.2.2.2.1), u29, u30, u31, u32, u33, u34, u35, u36, u37, u38, u39, u40, u41, u42, u43, u44, u45, u46, u47, u48, u49, u50, u51, u52, u53, u54, u55, u56, u57, u58, u59, u60, u61, u62, u63, u64, u65, u66, u67, u68, u69, u70, u71, u72], defers := [] }) (fun q V => Blk V q.2.2.2.2.2.2.1 (pdC x.1 q.1 q.2.1 q.2.2.1) 24 ∧ Blk V q.2.2.2.2.2.2.2 (pdC y.1 q.2.2.2.1 q.2.2.2.2.1 q.2.2.2.2.2.1) 24 ∧ Zo V w.heap.size q.1 q.2.1 q.2.2.1 (x.2.2.2.2.take 22) ∧ Zo V w.heap.size q.2.2.2.1 q.2.2.2.2.1 q.2.2.2.2.2.1 (y.2.2.2.2.take 22) ∧ Below w.heap.size w V) ?_ ?_
        · have hrx := hr
          have hry := hr0
          have hw0 : w.heap.size ≤ W1.drew.heap.size := hB1.size
          have hk6 : wr.heap.size < W1.drew.heap.size := k6.lt
          have hwr : w.heap.size ≤ wr.heap.size := hB.size
          have J : SJ w wr x W1.drew := ⟨hB1.drew, k6.drew⟩
          refine wp_region_held_drew (S := SJ w wr x) (by kernel_rfl) J (fun _ => ?_)
          refine wpAnyH_take (i := 0) (v := .agg (pdC x.1 x.2.1 x.2.2.1 x.2.2.2.1)) rfl (by kernel_rfl) (by kernel_rfl) (by kernel_rfl) (fun _ _ _ h => nomatch h.1) (yieldsIf_blk (by rfl) 24 (.tmp 6) rfl wr.heap.size rfl (pdC x.1 x.2.1 x.2.2.1 x.2.2.2.1) 24 _ (fun _ h => h.2) Try.underlying24 rfl (pd_inf _ _ _ _)) J ?_
          try simp only [Act.put, List.getElem_toArray, List.getElem_cons_zero, List.getElem_cons_succ, List.setIfInBounds_toArray, List.set_cons_zero, List.set_cons_succ]
          refine wpAnyH_take (i := 2) (v := .slice (some ⟨b, off, none⟩) m c) rfl (by kernel_rfl) (by kernel_rfl) (by kernel_rfl) (fun _ _ _ h => nomatch h.1) (.inl ⟨by rfl, fun V hV => by go_simp⟩) J ?_
          try simp only [Act.put, List.getElem_toArray, List.getElem_cons_zero, List.getElem_cons_succ, List.setIfInBounds_toArray, List.set_cons_zero, List.set_cons_succ]
          refine wpAnyH_take (i := 3) (v := .pointer (some ⟨b, off, none⟩)) rfl (by kernel_rfl) (by kernel_rfl) (by kernel_rfl) (fun _ _ _ h => nomatch h.1) (.inl ⟨by rfl, fun V hV => by have h9 : (0 : Int) < (m : Int) := (by omega); have h8 : 0 < m := (by omega); go_simp⟩) J ?_
          try simp only [Act.put, List.getElem_toArray, List.getElem_cons_zero, List.getElem_cons_succ, List.setIfInBounds_toArray, List.set_cons_zero, List.set_cons_succ]
          refine wpAnyH_take (i := 4) (v := .agg (pdC y.1 y.2.1 y.2.2.1 y.2.2.2.1)) rfl (by kernel_rfl) (by kernel_rfl) (by kernel_rfl) (fun _ _ _ h => nomatch h.1) (yieldsIf_load_mid (by rfl) 24 (.tmp 26) rfl b off rfl (pdC y.1 y.2.1 y.2.2.1 y.2.2.2.1).toList _ (fun V hV j v hv => (hV.1.cell (p := ⟨b, off + j, none⟩) hb).trans (hc0' j v hv)) Try.underlying24 rfl (pd_infL y)) J ?_
          try simp only [Act.put, List.getElem_toArray, List.getElem_cons_zero, List.getElem_cons_succ, List.setIfInBounds_toArray, List.set_cons_zero, List.set_cons_succ]
          generalize W1.drew = W0 at J hw0 hk6 ⊢
          refine wpAnyH_ready (rs := [1, 6, 7]) (by kernel_rfl) (by simp) ?_
          refine AllReadyH.cons rfl (fun K hK => ?_) (AllReadyH.cons rfl (fun K hK => ?_) (AllReadyH.cons rfl (fun K hK => ?_) AllReadyH.nil))
          · skip
            try simp only [Act.put, List.getElem_toArray, List.getElem_cons_zero, List.getElem_cons_succ, List.setIfInBounds_toArray, List.set_cons_zero, List.set_cons_succ]
            go_simp
            refine (short_pid x.1 x.2.1 x.2.2.1 x.2.2.2.1 x.2.2.2.2 W0 ((hrx.1.below J.1 (Nat.le_refl _)).more J.1.size) hrx.2.1 hrx.2.2).mono ?_
            rintro e V1 ⟨A7, m7, c7, rfl, z7, bb⟩
            go_wp2_with fail
            have J := J.step bb
            have bz7 : ∀ g, (Value.slice A7 m7 c7).ownBlock = some g → W0.heap.size ≤ g ∧ g < V1.heap.size := fun g e => z7.lt g e
            have hs1 : W0.heap.size ≤ V1.heap.size := bb.size
            have z7 := z7.down (b := w.heap.size) (by have := hw0; omega)
            clear bb
            refine hK.out _ _ J (fun _ => ?_)
            clear hK K
            try simp only [Act.put, List.getElem_toArray, List.getElem_cons_zero, List.getElem_cons_succ, List.setIfInBounds_toArray, List.set_cons_zero, List.set_cons_succ]
            refine wpAnyH_ready (rs := [5, 6, 7]) (by kernel_rfl) (by simp) ?_
            refine AllReadyH.cons rfl (fun K hK => ?_) (AllReadyH.cons rfl (fun K hK => ?_) (AllReadyH.cons rfl (fun K hK => ?_) AllReadyH.nil))
            · skip
              try simp only [Act.put, List.getElem_toArray, List.getElem_cons_zero, List.getElem_cons_succ, List.setIfInBounds_toArray, List.set_cons_zero, List.set_cons_succ]
              go_simp
              refine (short_pid y.1 y.2.1 y.2.2.1 y.2.2.2.1 y.2.2.2.2 V1 ((hry.1.below J.1 (Nat.le_refl _)).more J.1.size) hry.2.1 hry.2.2).mono ?_
              rintro e V2 ⟨A8, m8, c8, rfl, z8, bb⟩
              go_wp2_with fail
              have J := J.step bb
              have z7 := z7.below bb (Nat.le_refl _)
              have bz8 : ∀ g, (Value.slice A8 m8 c8).ownBlock = some g → V1.heap.size ≤ g ∧ g < V2.heap.size := fun g e => z8.lt g e
              have hs2 : V1.heap.size ≤ V2.heap.size := bb.size
              have z8 := z8.down (b := w.heap.size) (by have := hw0; omega)
              clear bb
              refine hK.out _ _ J (fun _ => ?_)
              clear hK K
              try simp only [Act.put, List.getElem_toArray, List.getElem_cons_zero, List.getElem_cons_succ, List.setIfInBounds_toArray, List.set_cons_zero, List.set_cons_succ]
              refine wpAnyH_ready (rs := [6, 7]) (by kernel_rfl) (by simp) ?_
              refine AllReadyH.cons rfl (fun K hK => ?_) (AllReadyH.cons rfl (fun K hK => ?_) AllReadyH.nil)
              · skip
                try simp only [Act.put, List.getElem_toArray, List.getElem_cons_zero, List.getElem_cons_succ, List.setIfInBounds_toArray, List.set_cons_zero, List.set_cons_succ]
                go_simp
                have k7 := Blk.new V2 (pdC 0 none 0 0) 24
                have bb : Below V2.heap.size V2 (V2.alloc (.cells (pdC 0 none 0 0) 24)) := (Below.refl _ _).alloc (Nat.le_refl _) _
                have hbg7 : V2.heap.size < (V2.alloc (.cells (pdC 0 none 0 0) 24)).heap.size := by simp
                show K _ (V2.alloc (.cells (pdC 0 none 0 0) 24))
                generalize V2.alloc (.cells (pdC 0 none 0 0) 24) = V3 at k7 bb hbg7 ⊢
                obtain ⟨g7, eg7⟩ : ∃ g, g = V2.heap.size := ⟨_, rfl⟩
                rw [← eg7] at k7 ⊢
                have Eg7 := Lib.hid eg7
                clear eg7
                have J := J.step bb
                have z7 := z7.below bb (Nat.le_refl _)
                have z8 := z8.below bb (Nat.le_refl _)
                have hs3 : V2.heap.size ≤ V3.heap.size := bb.size
                clear bb
                refine hK.out _ _ J (fun _ => ?_)
                clear hK K
                try simp only [Act.put, List.getElem_toArray, List.getElem_cons_zero, List.getElem_cons_succ, List.setIfInBounds_toArray, List.set_cons_zero, List.set_cons_succ]
                refine wpAnyH_ready (rs := [7]) (by kernel_rfl) (by simp) ?_
                refine AllReadyH.cons rfl (fun K hK => ?_) AllReadyH.nil
                · skip
                  try simp only [Act.put, List.getElem_toArray, List.getElem_cons_zero, List.getElem_cons_succ, List.setIfInBounds_toArray, List.set_cons_zero, List.set_cons_succ]
                  go_simp
                  have k8 := Blk.new V3 (pdC 0 none 0 0) 24
                  have bb : Below V3.heap.size V3 (V3.alloc (.cells (pdC 0 none 0 0) 24)) := (Below.refl _ _).alloc (Nat.le_refl _) _
                  have hbg8 : V3.heap.size < (V3.alloc (.cells (pdC 0 none 0 0) 24)).heap.size := by simp
                  show K _ (V3.alloc (.cells (pdC 0 none 0 0) 24))
                  generalize V3.alloc (.cells (pdC 0 none 0 0) 24) = V4 at k8 bb hbg8 ⊢
                  obtain ⟨g8, eg8⟩ : ∃ g, g = V3.heap.size := ⟨_, rfl⟩
                  rw [← eg8] at k8 ⊢
                  have Eg8 := Lib.hid eg8
                  clear eg8
                  have J := J.step bb
                  have k7 := k7.below bb k7.lt
                  have z7 := z7.below bb (Nat.le_refl _)
                  have z8 := z8.below bb (Nat.le_refl _)
                  have hs4 : V3.heap.size ≤ V4.heap.size := bb.size
                  clear bb
                  refine hK.out _ _ J (fun _ => ?_)
                  clear hK K
                  try simp only [Act.put, List.getElem_toArray, List.getElem_cons_zero, List.getElem_cons_succ, List.setIfInBounds_toArray, List.set_cons_zero, List.set_cons_succ]
                  have eg7 := Eg7.out
                  have eg8 := Eg8.out
                  have hg7 : w.heap.size ≤ g7 := by omega
                  have hg8 : w.heap.size ≤ g8 := by omega
                  have hh7 : wr.heap.size < g7 := by omega
                  have hh8 : wr.heap.size < g8 := by omega
                  have hgg : g7 ≠ g8 := by omega
                  have hz7 : ∀ g, (Value.slice A7 m7 c7).ownBlock = some g → g ≠ g7 := fun g e => by have := bz7 g e; omega
                  have hz8 : ∀ g, (Value.slice A8 m8 c8).ownBlock = some g → g ≠ g7 := fun g e => by have := bz8 g e; omega
                  have hy7 : ∀ g, (Value.slice A7 m7 c7).ownBlock = some g → g ≠ g8 := fun g e => by have := bz7 g e; omega
                  have hy8 : ∀ g, (Value.slice A8 m8 c8).ownBlock = some g → g ≠ g8 := fun g e => by have := bz8 g e; omega
                  clear eg7 eg8
                  refine wpAnyH_ready (rs := [8]) (by kernel_rfl) (by simp) ?_
                  refine AllReadyH.cons rfl (fun K hK => ?_) AllReadyH.nil
                  try simp only [Act.put, List.getElem_toArray, List.getElem_cons_zero, List.getElem_cons_succ, List.setIfInBounds_toArray, List.set_cons_zero, List.set_cons_succ]
                  rw [if_pos (by rfl)]
                  refine wp_store_blk 24 (.tmp 7) (.tmp 24) rfl g7 (pdC 0 none 0 0) (pdC x.1 A7 m7 c7) 24 rfl rfl k7 rfl (pd_inf _ _ _ _) (pd_one _ _ _ _) ?_
                  intro X1 h7 n7
                  have J1 := J.but n7 hg7 hh7
                  have k81 := n7.blk7 k8 (by omega)
                  have z71 := own_but z7 n7 (fun e => by have := hz7 _ e.symm; omega)
                  have z81 := own_but z8 n7 (fun e => by have := hz8 _ e.symm; omega)
                  refine hK.out _ _ J1 (fun _ => ?_)
                  clear hK K
                  try simp only [Act.put, List.getElem_toArray, List.getElem_cons_zero, List.getElem_cons_succ, List.setIfInBounds_toArray, List.set_cons_zero, List.set_cons_succ]
                  refine wpAnyH_ready (rs := [9]) (by kernel_rfl) (by simp) ?_
                  refine AllReadyH.cons rfl (fun K hK => ?_) AllReadyH.nil
                  try simp only [Act.put, List.getElem_toArray, List.getElem_cons_zero, List.getElem_cons_succ, List.setIfInBounds_toArray, List.set_cons_zero, List.set_cons_succ]
                  rw [if_pos (by rfl)]
                  refine wp_store_blk 24 (.tmp 8) (.tmp 28) rfl g8 (pdC 0 none 0 0) (pdC y.1 A8 m8 c8) 24 rfl rfl k81 rfl (pd_inf _ _ _ _) (pd_one _ _ _ _) ?_
                  intro X2 h8 n8
                  have J2 := J1.but n8 hg8 hh8
                  have h72 := n8.blk7 h7 (by omega)
                  have z72 := own_but z71 n8 (fun e => by have := hy7 _ e.symm; omega)
                  have z82 := own_but z81 n8 (fun e => by have := hy8 _ e.symm; omega)
                  refine hK.out _ _ J2 (fun _ => ?_)
                  clear hK K
                  try simp only [Act.put, List.getElem_toArray, List.getElem_cons_zero, List.getElem_cons_succ, List.setIfInBounds_toArray, List.set_cons_zero, List.set_cons_succ]
                  refine wpAnyH_done (by kernel_rfl) ?_ _
                  exact ⟨rfl, (A7, m7, c7, A8, m8, c8, g7, g8), rfl, h72, h8, z72, z82, J2.1⟩
              · skip
                try simp only [Act.put, List.getElem_toArray, List.getElem_cons_zero, List.getElem_cons_succ, List.setIfInBounds_toArray, List.set_cons_zero, List.set_cons_succ]
                go_simp
                have k8 := Blk.new V2 (pdC 0 none 0 0) 24
                have bb : Below V2.heap.size V2 (V2.alloc (.cells (pdC 0 none 0 0) 24)) := (Below.refl _ _).alloc (Nat.le_refl _) _
                have hbg8 : V2.heap.size < (V2.alloc (.cells (pdC 0 none 0 0) 24)).heap.size := by simp
                show K _ (V2.alloc (.cells (pdC 0 none 0 0) 24))
                generalize V2.alloc (.cells (pdC 0 none 0 0) 24) = V5 at k8 bb hbg8 ⊢
                obtain ⟨g8, eg8⟩ : ∃ g, g = V2.heap.size := ⟨_, rfl⟩
                rw [← eg8] at k8 ⊢
                have Eg8 := Lib.hid eg8
                clear eg8
                have J := J.step bb
                have z7 := z7.below bb (Nat.le_refl _)
                have z8 := z8.below bb (Nat.le_refl _)
                have hs5 : V2.heap.size ≤ V5.heap.size := bb.size
                clear bb
                refine hK.out _ _ J (fun _ => ?_)
                clear hK K
                try simp only [Act.put, List.getElem_toArray, List.getElem_cons_zero, List.getElem_cons_succ, List.setIfInBounds_toArray, List.set_cons_zero, List.set_cons_succ]
                refine wpAnyH_ready (rs := [6]) (by kernel_rfl) (by simp) ?_
                refine AllReadyH.cons rfl (fun K hK => ?_) AllReadyH.nil
                · skip
                  try simp only [Act.put, List.getElem_toArray, List.getElem_cons_zero, List.getElem_cons_succ, List.setIfInBounds_toArray, List.set_cons_zero, List.set_cons_succ]
                  go_simp
                  have k7 := Blk.new V5 (pdC 0 none 0 0) 24
                  have bb : Below V5.heap.size V5 (V5.alloc (.cells (pdC 0 none 0 0) 24)) := (Below.refl _ _).alloc (Nat.le_refl _) _
                  have hbg7 : V5.heap.size < (V5.alloc (.cells (pdC 0 none 0 0) 24)).heap.size := by simp
                  show K _ (V5.alloc (.cells (pdC 0 none 0 0) 24))
                  generalize V5.alloc (.cells (pdC 0 none 0 0) 24) = V6 at k7 bb hbg7 ⊢
                  obtain ⟨g7, eg7⟩ : ∃ g, g = V5.heap.size := ⟨_, rfl⟩
                  rw [← eg7] at k7 ⊢
                  have Eg7 := Lib.hid eg7
                  clear eg7
                  have J := J.step bb
                  have k8 := k8.below bb k8.lt
                  have z7 := z7.below bb (Nat.le_refl _)
                  have z8 := z8.below bb (Nat.le_refl _)
                  have hs6 : V5.heap.size ≤ V6.heap.size := bb.size
                  clear bb
                  refine hK.out _ _ J (fun _ => ?_)
                  clear hK K
                  try simp only [Act.put, List.getElem_toArray, List.getElem_cons_zero, List.getElem_cons_succ, List.setIfInBounds_toArray, List.set_cons_zero, List.set_cons_succ]
                  have eg7 := Eg7.out
                  have eg8 := Eg8.out
                  have hg7 : w.heap.size ≤ g7 := by omega
                  have hg8 : w.heap.size ≤ g8 := by omega
                  have hh7 : wr.heap.size < g7 := by omega
                  have hh8 : wr.heap.size < g8 := by omega
                  have hgg : g7 ≠ g8 := by omega
                  have hz7 : ∀ g, (Value.slice A7 m7 c7).ownBlock = some g → g ≠ g7 := fun g e => by have := bz7 g e; omega
                  have hz8 : ∀ g, (Value.slice A8 m8 c8).ownBlock = some g → g ≠ g7 := fun g e => by have := bz8 g e; omega
                  have hy7 : ∀ g, (Value.slice A7 m7 c7).ownBlock = some g → g ≠ g8 := fun g e => by have := bz7 g e; omega
                  have hy8 : ∀ g, (Value.slice A8 m8 c8).ownBlock = some g → g ≠ g8 := fun g e => by have := bz8 g e; omega
                  clear eg7 eg8
                  refine wpAnyH_ready (rs := [8]) (by kernel_rfl) (by simp) ?_
                  refine AllReadyH.cons rfl (fun K hK => ?_) AllReadyH.nil
                  try simp only [Act.put, List.getElem_toArray, List.getElem_cons_zero, List.getElem_cons_succ, List.setIfInBounds_toArray, List.set_cons_zero, List.set_cons_succ]
                  rw [if_pos (by rfl)]
                  refine wp_store_blk 24 (.tmp 7) (.tmp 24) rfl g7 (pdC 0 none 0 0) (pdC x.1 A7 m7 c7) 24 rfl rfl k7 rfl (pd_inf _ _ _ _) (pd_one _ _ _ _) ?_
                  intro X1 h7 n7
                  have J1 := J.but n7 hg7 hh7
                  have k81 := n7.blk7 k8 (by omega)
                  have z71 := own_but z7 n7 (fun e => by have := hz7 _ e.symm; omega)
                  have z81 := own_but z8 n7 (fun e => by have := hz8 _ e.symm; omega)
                  refine hK.out _ _ J1 (fun _ => ?_)
                  clear hK K
                  try simp only [Act.put, List.getElem_toArray, List.getElem_cons_zero, List.getElem_cons_succ, List.setIfInBounds_toArray, List.set_cons_zero, List.set_cons_succ]
                  refine wpAnyH_ready (rs := [9]) (by kernel_rfl) (by simp) ?_
                  refine AllReadyH.cons rfl (fun K hK => ?_) AllReadyH.nil
                  try simp only [Act.put, List.getElem_toArray, List.getElem_cons_zero, List.getElem_cons_succ, List.setIfInBounds_toArray, List.set_cons_zero, List.set_cons_succ]
                  rw [if_pos (by rfl)]
                  refine wp_store_blk 24 (.tmp 8) (.tmp 28) rfl g8 (pdC 0 none 0 0) (pdC y.1 A8 m8 c8) 24 rfl rfl k81 rfl (pd_inf _ _ _ _) (pd_one _ _ _ _) ?_
                  intro X2 h8 n8
                  have J2 := J1.but n8 hg8 hh8
                  have h72 := n8.blk7 h7 (by omega)
                  have z72 := own_but z71 n8 (fun e => by have := hy7 _ e.symm; omega)
                  have z82 := own_but z81 n8 (fun e => by have := hy8 _ e.symm; omega)
                  refine hK.out _ _ J2 (fun _ => ?_)
                  clear hK K
                  try simp only [Act.put, List.getElem_toArray, List.getElem_cons_zero, List.getElem_cons_succ, List.setIfInBounds_toArray, List.set_cons_zero, List.set_cons_succ]
                  refine wpAnyH_done (by kernel_rfl) ?_ _
                  exact ⟨rfl, (A7, m7, c7, A8, m8, c8, g7, g8), rfl, h72, h8, z72, z82, J2.1⟩
            · skip
              try simp only [Act.put, List.getElem_toArray, List.getElem_cons_zero, List.getElem_cons_succ, List.setIfInBounds_toArray, List.set_cons_zero, List.set_cons_succ]
              go_simp
              have k7 := Blk.new V1 (pdC 0 none 0 0) 24
              have bb : Below V1.heap.size V1 (V1.alloc (.cells (pdC 0 none 0 0) 24)) := (Below.refl _ _).alloc (Nat.le_refl _) _
              have hbg7 : V1.heap.size < (V1.alloc (.cells (pdC 0 none 0 0) 24)).heap.size := by simp
              show K _ (V1.alloc (.cells (pdC 0 none 0 0) 24))
              generalize V1.alloc (.cells (pdC 0 none 0 0) 24) = V7 at k7 bb hbg7 ⊢
              obtain ⟨g7, eg7⟩ : ∃ g, g = V1.heap.size := ⟨_, rfl⟩
              rw [← eg7] at k7 ⊢
              have Eg7 := Lib.hid eg7
              clear eg7
              have J := J.step bb
              have z7 := z7.below bb (Nat.le_refl _)
              have hs7 : V1.heap.size ≤ V7.heap.size := bb.size
              clear bb
              refine hK.out _ _ J (fun _ => ?_)
              clear hK K
              try simp only [Act.put, List.getElem_toArray, List.getElem_cons_zero, List.getElem_cons_succ, List.setIfInBounds_toArray, List.set_cons_zero, List.set_cons_succ]
              refine wpAnyH_ready (rs := [5, 7]) (by kernel_rfl) (by simp) ?_
              refine AllReadyH.cons rfl (fun K hK => ?_) (AllReadyH.cons rfl (fun K hK => ?_) AllReadyH.nil)
              · skip
                try simp only [Act.put, List.getElem_toArray, List.getElem_cons_zero, List.getElem_cons_succ, List.setIfInBounds_toArray, List.set_cons_zero, List.set_cons_succ]
                go_simp
                refine (short_pid y.1 y.2.1 y.2.2.1 y.2.2.2.1 y.2.2.2.2 V7 ((hry.1.below J.1 (Nat.le_refl _)).more J.1.size) hry.2.1 hry.2.2).mono ?_
                rintro e V8 ⟨A8, m8, c8, rfl, z8, bb⟩
                go_wp2_with fail
                have J := J.step bb
                have k7 := k7.below bb k7.lt
                have z7 := z7.below bb (Nat.le_refl _)
                have bz8 : ∀ g, (Value.slice A8 m8 c8).ownBlock = some g → V7.heap.size ≤ g ∧ g < V8.heap.size := fun g e => z8.lt g e
                have hs8 : V7.heap.size ≤ V8.heap.size := bb.size
                have z8 := z8.down (b := w.heap.size) (by have := hw0; omega)
                clear bb
                refine hK.out _ _ J (fun _ => ?_)
                clear hK K
                try simp only [Act.put, List.getElem_toArray, List.getElem_cons_zero, List.getElem_cons_succ, List.setIfInBounds_toArray, List.set_cons_zero, List.set_cons_succ]
                refine wpAnyH_ready (rs := [7]) (by kernel_rfl) (by simp) ?_
                refine AllReadyH.cons rfl (fun K hK => ?_) AllReadyH.nil
                · skip
                  try simp only [Act.put, List.getElem_toArray, List.getElem_cons_zero, List.getElem_cons_succ, List.setIfInBounds_toArray, List.set_cons_zero, List.set_cons_succ]
                  go_simp
                  have k8 := Blk.new V8 (pdC 0 none 0 0) 24
                  have bb : Below V8.heap.size V8 (V8.alloc (.cells (pdC 0 none 0 0) 24)) := (Below.refl _ _).alloc (Nat.le_refl _) _
                  have hbg8 : V8.heap.size < (V8.alloc (.cells (pdC 0 none 0 0) 24)).heap.size := by simp
                  show K _ (V8.alloc (.cells (pdC 0 none 0 0) 24))
                  generalize V8.alloc (.cells (pdC 0 none 0 0) 24) = V9 at k8 bb hbg8 ⊢
                  obtain ⟨g8, eg8⟩ : ∃ g, g = V8.heap.size := ⟨_, rfl⟩
                  rw [← eg8] at k8 ⊢
                  have Eg8 := Lib.hid eg8
                  clear eg8
                  have J := J.step bb
                  have k7 := k7.below bb k7.lt
                  have z7 := z7.below bb (Nat.le_refl _)
                  have z8 := z8.below bb (Nat.le_refl _)
                  have hs9 : V8.heap.size ≤ V9.heap.size := bb.size
                  clear bb
                  refine hK.out _ _ J (fun _ => ?_)
                  clear hK K
                  try simp only [Act.put, List.getElem_toArray, List.getElem_cons_zero, List.getElem_cons_succ, List.setIfInBounds_toArray, List.set_cons_zero, List.set_cons_succ]
                  have eg7 := Eg7.out
                  have eg8 := Eg8.out
                  have hg7 : w.heap.size ≤ g7 := by omega
                  have hg8 : w.heap.size ≤ g8 := by omega
                  have hh7 : wr.heap.size < g7 := by omega
                  have hh8 : wr.heap.size < g8 := by omega
                  have hgg : g7 ≠ g8 := by omega
                  have hz7 : ∀ g, (Value.slice A7 m7 c7).ownBlock = some g → g ≠ g7 := fun g e => by have := bz7 g e; omega
                  have hz8 : ∀ g, (Value.slice A8 m8 c8).ownBlock = some g → g ≠ g7 := fun g e => by have := bz8 g e; omega
                  have hy7 : ∀ g, (Value.slice A7 m7 c7).ownBlock = some g → g ≠ g8 := fun g e => by have := bz7 g e; omega
                  have hy8 : ∀ g, (Value.slice A8 m8 c8).ownBlock = some g → g ≠ g8 := fun g e => by have := bz8 g e; omega
                  clear eg7 eg8
                  refine wpAnyH_ready (rs := [8]) (by kernel_rfl) (by simp) ?_
                  refine AllReadyH.cons rfl (fun K hK => ?_) AllReadyH.nil
                  try simp only [Act.put, List.getElem_toArray, List.getElem_cons_zero, List.getElem_cons_succ, List.setIfInBounds_toArray, List.set_cons_zero, List.set_cons_succ]
                  rw [if_pos (by rfl)]
                  refine wp_store_blk 24 (.tmp 7) (.tmp 24) rfl g7 (pdC 0 none 0 0) (pdC x.1 A7 m7 c7) 24 rfl rfl k7 rfl (pd_inf _ _ _ _) (pd_one _ _ _ _) ?_
                  intro X1 h7 n7
                  have J1 := J.but n7 hg7 hh7
                  have k81 := n7.blk7 k8 (by omega)
                  have z71 := own_but z7 n7 (fun e => by have := hz7 _ e.symm; omega)
                  have z81 := own_but z8 n7 (fun e => by have := hz8 _ e.symm; omega)
                  refine hK.out _ _ J1 (fun _ => ?_)
                  clear hK K
                  try simp only [Act.put, List.getElem_toArray, List.getElem_cons_zero, List.getElem_cons_succ, List.setIfInBounds_toArray, List.set_cons_zero, List.set_cons_succ]
                  refine wpAnyH_ready (rs := [9]) (by kernel_rfl) (by simp) ?_
                  refine AllReadyH.cons rfl (fun K hK => ?_) AllReadyH.nil
                  try simp only [Act.put, List.getElem_toArray, List.getElem_cons_zero, List.getElem_cons_succ, List.setIfInBounds_toArray, List.set_cons_zero, List.set_cons_succ]
                  rw [if_pos (by rfl)]
                  refine wp_store_blk 24 (.tmp 8) (.tmp 28) rfl g8 (pdC 0 none 0 0) (pdC y.1 A8 m8 c8) 24 rfl rfl k81 rfl (pd_inf _ _ _ _) (pd_one _ _ _ _) ?_
                  intro X2 h8 n8
                  have J2 := J1.but n8 hg8 hh8
                  have h72 := n8.blk7 h7 (by omega)
                  have z72 := own_but z71 n8 (fun e => by have := hy7 _ e.symm; omega)
                  have z82 := own_but z81 n8 (fun e => by have := hy8 _ e.symm; omega)
                  refine hK.out _ _ J2 (fun _ => ?_)
                  clear hK K
                  try simp only [Act.put, List.getElem_toArray, List.getElem_cons_zero, List.getElem_cons_succ, List.setIfInBounds_toArray, List.set_cons_zero, List.set_cons_succ]
                  refine wpAnyH_done (by kernel_rfl) ?_ _
                  exact ⟨rfl, (A7, m7, c7, A8, m8, c8, g7, g8), rfl, h72, h8, z72, z82, J2.1⟩
              · skip
                try simp only [Act.put, List.getElem_toArray, List.getElem_cons_zero, List.getElem_cons_succ, List.setIfInBounds_toArray, List.set_cons_zero, List.set_cons_succ]
                go_simp
                have k8 := Blk.new V7 (pdC 0 none 0 0) 24
                have bb : Below V7.heap.size V7 (V7.alloc (.cells (pdC 0 none 0 0) 24)) := (Below.refl _ _).alloc (Nat.le_refl _) _
                have hbg8 : V7.heap.size < (V7.alloc (.cells (pdC 0 none 0 0) 24)).heap.size := by simp
                show K _ (V7.alloc (.cells (pdC 0 none 0 0) 24))
                generalize V7.alloc (.cells (pdC 0 none 0 0) 24) = V10 at k8 bb hbg8 ⊢
                obtain ⟨g8, eg8⟩ : ∃ g, g = V7.heap.size := ⟨_, rfl⟩
                rw [← eg8] at k8 ⊢
                have Eg8 := Lib.hid eg8
                clear eg8
                have J := J.step bb
                have k7 := k7.below bb k7.lt
                have z7 := z7.below bb (Nat.le_refl _)
                have hs10 : V7.heap.size ≤ V10.heap.size := bb.size
                clear bb
                refine hK.out _ _ J (fun _ => ?_)
                clear hK K
                try simp only [Act.put, List.getElem_toArray, List.getElem_cons_zero, List.getElem_cons_succ, List.setIfInBounds_toArray, List.set_cons_zero, List.set_cons_succ]
                refine wpAnyH_ready (rs := [5]) (by kernel_rfl) (by simp) ?_
                refine AllReadyH.cons rfl (fun K hK => ?_) AllReadyH.nil
                · skip
                  try simp only [Act.put, List.getElem_toArray, List.getElem_cons_zero, List.getElem_cons_succ, List.setIfInBounds_toArray, List.set_cons_zero, List.set_cons_succ]
                  go_simp
                  refine (short_pid y.1 y.2.1 y.2.2.1 y.2.2.2.1 y.2.2.2.2 V10 ((hry.1.below J.1 (Nat.le_refl _)).more J.1.size) hry.2.1 hry.2.2).mono ?_
                  rintro e V11 ⟨A8, m8, c8, rfl, z8, bb⟩
                  go_wp2_with fail
                  have J := J.step bb
                  have k7 := k7.below bb k7.lt
                  have k8 := k8.below bb k8.lt
                  have z7 := z7.below bb (Nat.le_refl _)
                  have bz8 : ∀ g, (Value.slice A8 m8 c8).ownBlock = some g → V10.heap.size ≤ g ∧ g < V11.heap.size := fun g e => z8.lt g e
                  have hs11 : V10.heap.size ≤ V11.heap.size := bb.size
                  have z8 := z8.down (b := w.heap.size) (by have := hw0; omega)
                  clear bb
                  refine hK.out _ _ J (fun _ => ?_)
                  clear hK K
                  try simp only [Act.put, List.getElem_toArray, List.getElem_cons_zero, List.getElem_cons_succ, List.setIfInBounds_toArray, List.set_cons_zero, List.set_cons_succ]
                  have eg7 := Eg7.out
                  have eg8 := Eg8.out
                  have hg7 : w.heap.size ≤ g7 := by omega
                  have hg8 : w.heap.size ≤ g8 := by omega
                  have hh7 : wr.heap.size < g7 := by omega
                  have hh8 : wr.heap.size < g8 := by omega
                  have hgg : g7 ≠ g8 := by omega
                  have hz7 : ∀ g, (Value.slice A7 m7 c7).ownBlock = some g → g ≠ g7 := fun g e => by have := bz7 g e; omega
                  have hz8 : ∀ g, (Value.slice A8 m8 c8).ownBlock = some g → g ≠ g7 := fun g e => by have := bz8 g e; omega
                  have hy7 : ∀ g, (Value.slice A7 m7 c7).ownBlock = some g → g ≠ g8 := fun g e => by have := bz7 g e; omega
                  have hy8 : ∀ g, (Value.slice A8 m8 c8).ownBlock = some g → g ≠ g8 := fun g e => by have := bz8 g e; omega
                  clear eg7 eg8
                  refine wpAnyH_ready (rs := [8]) (by kernel_rfl) (by simp) ?_
                  refine AllReadyH.cons rfl (fun K hK => ?_) AllReadyH.nil
                  try simp only [Act.put, List.getElem_toArray, List.getElem_cons_zero, List.getElem_cons_succ, List.setIfInBounds_toArray, List.set_cons_zero, List.set_cons_succ]
                  rw [if_pos (by rfl)]
                  refine wp_store_blk 24 (.tmp 7) (.tmp 24) rfl g7 (pdC 0 none 0 0) (pdC x.1 A7 m7 c7) 24 rfl rfl k7 rfl (pd_inf _ _ _ _) (pd_one _ _ _ _) ?_
                  intro X1 h7 n7
                  have J1 := J.but n7 hg7 hh7
                  have k81 := n7.blk7 k8 (by omega)
                  have z71 := own_but z7 n7 (fun e => by have := hz7 _ e.symm; omega)
                  have z81 := own_but z8 n7 (fun e => by have := hz8 _ e.symm; omega)
                  refine hK.out _ _ J1 (fun _ => ?_)
                  clear hK K
                  try simp only [Act.put, List.getElem_toArray, List.getElem_cons_zero, List.getElem_cons_succ, List.setIfInBounds_toArray, List.set_cons_zero, List.set_cons_succ]
                  refine wpAnyH_ready (rs := [9]) (by kernel_rfl) (by simp) ?_
                  refine AllReadyH.cons rfl (fun K hK => ?_) AllReadyH.nil
                  try simp only [Act.put, List.getElem_toArray, List.getElem_cons_zero, List.getElem_cons_succ, List.setIfInBounds_toArray, List.set_cons_zero, List.set_cons_succ]
                  rw [if_pos (by rfl)]
                  refine wp_store_blk 24 (.tmp 8) (.tmp 28) rfl g8 (pdC 0 none 0 0) (pdC y.1 A8 m8 c8) 24 rfl rfl k81 rfl (pd_inf _ _ _ _) (pd_one _ _ _ _) ?_
                  intro X2 h8 n8
                  have J2 := J1.but n8 hg8 hh8
                  have h72 := n8.blk7 h7 (by omega)
                  have z72 := own_but z71 n8 (fun e => by have := hy7 _ e.symm; omega)
                  have z82 := own_but z81 n8 (fun e => by have := hy8 _ e.symm; omega)
                  refine hK.out _ _ J2 (fun _ => ?_)
                  clear hK K
                  try simp only [Act.put, List.getElem_toArray, List.getElem_cons_zero, List.getElem_cons_succ, List.setIfInBounds_toArray, List.set_cons_zero, List.set_cons_succ]
                  refine wpAnyH_done (by kernel_rfl) ?_ _
                  exact ⟨rfl, (A7, m7, c7, A8, m8, c8, g7, g8), rfl, h72, h8, z72, z82, J2.1⟩
            · skip
              try simp only [Act.put, List.getElem_toArray, List.getElem_cons_zero, List.getElem_cons_succ, List.setIfInBounds_toArray, List.set_cons_zero, List.set_cons_succ]
              go_simp
              have k8 := Blk.new V1 (pdC 0 none 0 0) 24
              have bb : Below V1.heap.size V1 (V1.alloc (.cells (pdC 0 none 0 0) 24)) := (Below.refl _ _).alloc (Nat.le_refl _) _
              have hbg8 : V1.heap.size < (V1.alloc (.cells (pdC 0 none 0 0) 24)).heap.size := by simp
              show K _ (V1.alloc (.cells (pdC 0 none 0 0) 24))
              generalize V1.alloc (.cells (pdC 0 none 0 0) 24) = V12 at k8 bb hbg8 ⊢
              obtain ⟨g8, eg8⟩ : ∃ g, g = V1.heap.size := ⟨_, rfl⟩
              rw [← eg8] at k8 ⊢
              have Eg8 := Lib.hid eg8
              clear eg8
              have J := J.step bb
              have z7 := z7.below bb (Nat.le_refl _)
              have hs12 : V1.heap.size ≤ V12.heap.size := bb.size
              clear bb
              refine hK.out _ _ J (fun _ => ?_)
              clear hK K
              try simp only [Act.put, List.getElem_toArray, List.getElem_cons_zero, List.getElem_cons_succ, List.setIfInBounds_toArray, List.set_cons_zero, List.set_cons_succ]
              refine wpAnyH_ready (rs := [5, 6]) (by kernel_rfl) (by simp) ?_
              refine AllReadyH.cons rfl (fun K hK => ?_) (AllReadyH.cons rfl (fun K hK => ?_) AllReadyH.nil)
              · skip
                try simp only [Act.put, List.getElem_toArray, List.getElem_cons_zero, List.getElem_cons_succ, List.setIfInBounds_toArray, List.set_cons_zero, List.set_cons_succ]
                go_simp
                refine (short_pid y.1 y.2.1 y.2.2.1 y.2.2.2.1 y.2.2.2.2 V12 ((hry.1.below J.1 (Nat.le_refl _)).more J.1.size) hry.2.1 hry.2.2).mono ?_
                rintro e V13 ⟨A8, m8, c8, rfl, z8, bb⟩
                go_wp2_with fail
                have J := J.step bb
                have k8 := k8.below bb k8.lt
                have z7 := z7.below bb (Nat.le_refl _)
                have bz8 : ∀ g, (Value.slice A8 m8 c8).ownBlock = some g → V12.heap.size ≤ g ∧ g < V13.heap.size := fun g e => z8.lt g e
                have hs13 : V12.heap.size ≤ V13.heap.size := bb.size
                have z8 := z8.down (b := w.heap.size) (by have := hw0; omega)
                clear bb
                refine hK.out _ _ J (fun _ => ?_)
                clear hK K
                try simp only [Act.put, List.getElem_toArray, List.getElem_cons_zero, List.getElem_cons_succ, List.setIfInBounds_toArray, List.set_cons_zero, List.set_cons_succ]
                refine wpAnyH_ready (rs := [6]) (by kernel_rfl) (by simp) ?_
                refine AllReadyH.cons rfl (fun K hK => ?_) AllReadyH.nil
                · skip
                  try simp only [Act.put, List.getElem_toArray, List.getElem_cons_zero, List.getElem_cons_succ, List.setIfInBounds_toArray, List.set_cons_zero, List.set_cons_succ]
                  go_simp
                  have k7 := Blk.new V13 (pdC 0 none 0 0) 24
                  have bb : Below V13.heap.size V13 (V13.alloc (.cells (pdC 0 none 0 0) 24)) := (Below.refl _ _).alloc (Nat.le_refl _) _
                  have hbg7 : V13.heap.size < (V13.alloc (.cells (pdC 0 none 0 0) 24)).heap.size := by simp
                  show K _ (V13.alloc (.cells (pdC 0 none 0 0) 24))
                  generalize V13.alloc (.cells (pdC 0 none 0 0) 24) = V14 at k7 bb hbg7 ⊢
                  obtain ⟨g7, eg7⟩ : ∃ g, g = V13.heap.size := ⟨_, rfl⟩
                  rw [← eg7] at k7 ⊢
                  have Eg7 := Lib.hid eg7
                  clear eg7
                  have J := J.step bb
                  have k8 := k8.below bb k8.lt
                  have z7 := z7.below bb (Nat.le_refl _)
                  have z8 := z8.below bb (Nat.le_refl _)
                  have hs14 : V13.heap.size ≤ V14.heap.size := bb.size
                  clear bb
                  refine hK.out _ _ J (fun _ => ?_)
                  clear hK K
                  try simp only [Act.put, List.getElem_toArray, List.getElem_cons_zero, List.getElem_cons_succ, List.setIfInBounds_toArray, List.set_cons_zero, List.set_cons_succ]
                  have eg7 := Eg7.out
                  have eg8 := Eg8.out
                  have hg7 : w.heap.size ≤ g7 := by omega
                  have hg8 : w.heap.size ≤ g8 := by omega
                  have hh7 : wr.heap.size < g7 := by omega
                  have hh8 : wr.heap.size < g8 := by omega
                  have hgg : g7 ≠ g8 := by omega
                  have hz7 : ∀ g, (Value.slice A7 m7 c7).ownBlock = some g → g ≠ g7 := fun g e => by have := bz7 g e; omega
                  have hz8 : ∀ g, (Value.slice A8 m8 c8).ownBlock = some g → g ≠ g7 := fun g e => by have := bz8 g e; omega
                  have hy7 : ∀ g, (Value.slice A7 m7 c7).ownBlock = some g → g ≠ g8 := fun g e => by have := bz7 g e; omega
                  have hy8 : ∀ g, (Value.slice A8 m8 c8).ownBlock = some g → g ≠ g8 := fun g e => by have := bz8 g e; omega
                  clear eg7 eg8
                  refine wpAnyH_ready (rs := [8]) (by kernel_rfl) (by simp) ?_
                  refine AllReadyH.cons rfl (fun K hK => ?_) AllReadyH.nil
                  try simp only [Act.put, List.getElem_toArray, List.getElem_cons_zero, List.getElem_cons_succ, List.setIfInBounds_toArray, List.set_cons_zero, List.set_cons_succ]
                  rw [if_pos (by rfl)]
                  refine wp_store_blk 24 (.tmp 7) (.tmp 24) rfl g7 (pdC 0 none 0 0) (pdC x.1 A7 m7 c7) 24 rfl rfl k7 rfl (pd_inf _ _ _ _) (pd_one _ _ _ _) ?_
                  intro X1 h7 n7
                  have J1 := J.but n7 hg7 hh7
                  have k81 := n7.blk7 k8 (by omega)
                  have z71 := own_but z7 n7 (fun e => by have := hz7 _ e.symm; omega)
                  have z81 := own_but z8 n7 (fun e => by have := hz8 _ e.symm; omega)
                  refine hK.out _ _ J1 (fun _ => ?_)
                  clear hK K
                  try simp only [Act.put, List.getElem_toArray, List.getElem_cons_zero, List.getElem_cons_succ, List.setIfInBounds_toArray, List.set_cons_zero, List.set_cons_succ]
                  refine wpAnyH_ready (rs := [9]) (by kernel_rfl) (by simp) ?_
                  refine AllReadyH.cons rfl (fun K hK => ?_) AllReadyH.nil
                  try simp only [Act.put, List.getElem_toArray, List.getElem_cons_zero, List.getElem_cons_succ, List.setIfInBounds_toArray, List.set_cons_zero, List.set_cons_succ]
                  rw [if_pos (by rfl)]
                  refine wp_store_blk 24 (.tmp 8) (.tmp 28) rfl g8 (pdC 0 none 0 0) (pdC y.1 A8 m8 c8) 24 rfl rfl k81 rfl (pd_inf _ _ _ _) (pd_one _ _ _ _) ?_
                  intro X2 h8 n8
                  have J2 := J1.but n8 hg8 hh8
                  have h72 := n8.blk7 h7 (by omega)
                  have z72 := own_but z71 n8 (fun e => by have := hy7 _ e.symm; omega)
                  have z82 := own_but z81 n8 (fun e => by have := hy8 _ e.symm; omega)
                  refine hK.out _ _ J2 (fun _ => ?_)
                  clear hK K
                  try simp only [Act.put, List.getElem_toArray, List.getElem_cons_zero, List.getElem_cons_succ, List.setIfInBounds_toArray, List.set_cons_zero, List.set_cons_succ]
                  refine wpAnyH_done (by kernel_rfl) ?_ _
                  exact ⟨rfl, (A7, m7, c7, A8, m8, c8, g7, g8), rfl, h72, h8, z72, z82, J2.1⟩
              · skip
                try simp only [Act.put, List.getElem_toArray, List.getElem_cons_zero, List.getElem_cons_succ, List.setIfInBounds_toArray, List.set_cons_zero, List.set_cons_succ]
                go_simp
                have k7 := Blk.new V12 (pdC 0 none 0 0) 24
                have bb : Below V12.heap.size V12 (V12.alloc (.cells (pdC 0 none 0 0) 24)) := (Below.refl _ _).alloc (Nat.le_refl _) _
                have hbg7 : V12.heap.size < (V12.alloc (.cells (pdC 0 none 0 0) 24)).heap.size := by simp
                show K _ (V12.alloc (.cells (pdC 0 none 0 0) 24))
                generalize V12.alloc (.cells (pdC 0 none 0 0) 24) = V15 at k7 bb hbg7 ⊢
                obtain ⟨g7, eg7⟩ : ∃ g, g = V12.heap.size := ⟨_, rfl⟩
                rw [← eg7] at k7 ⊢
                have Eg7 := Lib.hid eg7
                clear eg7
                have J := J.step bb
                have k8 := k8.below bb k8.lt
                have z7 := z7.below bb (Nat.le_refl _)
                have hs15 : V12.heap.size ≤ V15.heap.size := bb.size
                clear bb
                refine hK.out _ _ J (fun _ => ?_)
                clear hK K
                try simp only [Act.put, List.getElem_toArray, List.getElem_cons_zero, List.getElem_cons_succ, List.setIfInBounds_toArray, List.set_cons_zero, List.set_cons_succ]
                refine wpAnyH_ready (rs := [5]) (by kernel_rfl) (by simp) ?_
                refine AllReadyH.cons rfl (fun K hK => ?_) AllReadyH.nil
                · skip
                  try simp only [Act.put, List.getElem_toArray, List.getElem_cons_zero, List.getElem_cons_succ, List.setIfInBounds_toArray, List.set_cons_zero, List.set_cons_succ]
                  go_simp
                  refine (short_pid y.1 y.2.1 y.2.2.1 y.2.2.2.1 y.2.2.2.2 V15 ((hry.1.below J.1 (Nat.le_refl _)).more J.1.size) hry.2.1 hry.2.2).mono ?_
                  rintro e V16 ⟨A8, m8, c8, rfl, z8, bb⟩
                  go_wp2_with fail
                  have J := J.step bb
                  have k7 := k7.below bb k7.lt
                  have k8 := k8.below bb k8.lt
                  have z7 := z7.below bb (Nat.le_refl _)
                  have bz8 : ∀ g, (Value.slice A8 m8 c8).ownBlock = some g → V15.heap.size ≤ g ∧ g < V16.heap.size := fun g e => z8.lt g e
                  have hs16 : V15.heap.size ≤ V16.heap.size := bb.size
                  have z8 := z8.down (b := w.heap.size) (by have := hw0; omega)
                  clear bb
                  refine hK.out _ _ J (fun _ => ?_)
                  clear hK K
                  try simp only [Act.put, List.getElem_toArray, List.getElem_cons_zero, List.getElem_cons_succ, List.setIfInBounds_toArray, List.set_cons_zero, List.set_cons_succ]
                  have eg7 := Eg7.out
                  have eg8 := Eg8.out
                  have hg7 : w.heap.size ≤ g7 := by omega
                  have hg8 : w.heap.size ≤ g8 := by omega
                  have hh7 : wr.heap.size < g7 := by omega
                  have hh8 : wr.heap.size < g8 := by omega
                  have hgg : g7 ≠ g8 := by omega
                  have hz7 : ∀ g, (Value.slice A7 m7 c7).ownBlock = some g → g ≠ g7 := fun g e => by have := bz7 g e; omega
                  have hz8 : ∀ g, (Value.slice A8 m8 c8).ownBlock = some g → g ≠ g7 := fun g e => by have := bz8 g e; omega
                  have hy7 : ∀ g, (Value.slice A7 m7 c7).ownBlock = some g → g ≠ g8 := fun g e => by have := bz7 g e; omega
                  have hy8 : ∀ g, (Value.slice A8 m8 c8).ownBlock = some g → g ≠ g8 := fun g e => by have := bz8 g e; omega
                  clear eg7 eg8
                  refine wpAnyH_ready (rs := [8]) (by kernel_rfl) (by simp) ?_
                  refine AllReadyH.cons rfl (fun K hK => ?_) AllReadyH.nil
                  try simp only [Act.put, List.getElem_toArray, List.getElem_cons_zero, List.getElem_cons_succ, List.setIfInBounds_toArray, List.set_cons_zero, List.set_cons_succ]
                  rw [if_pos (by rfl)]
                  refine wp_store_blk 24 (.tmp 7) (.tmp 24) rfl g7 (pdC 0 none 0 0) (pdC x.1 A7 m7 c7) 24 rfl rfl k7 rfl (pd_inf _ _ _ _) (pd_one _ _ _ _) ?_
                  intro X1 h7 n7
                  have J1 := J.but n7 hg7 hh7
                  have k81 := n7.blk7 k8 (by omega)
                  have z71 := own_but z7 n7 (fun e => by have := hz7 _ e.symm; omega)
                  have z81 := own_but z8 n7 (fun e => by have := hz8 _ e.symm; omega)
                  refine hK.out _ _ J1 (fun _ => ?_)
                  clear hK K
                  try simp only [Act.put, List.getElem_toArray, List.getElem_cons_zero, List.getElem_cons_succ, List.setIfInBounds_toArray, List.set_cons_zero, List.set_cons_succ]
                  refine wpAnyH_ready (rs := [9]) (by kernel_rfl) (by simp) ?_
                  refine AllReadyH.cons rfl (fun K hK => ?_) AllReadyH.nil
                  try simp only [Act.put, List.getElem_toArray, List.getElem_cons_zero, List.getElem_cons_succ, List.setIfInBounds_toArray, List.set_cons_zero, List.set_cons_succ]
                  rw [if_pos (by rfl)]
                  refine wp_store_blk 24 (.tmp 8) (.tmp 28) rfl g8 (pdC 0 none 0 0) (pdC y.1 A8 m8 c8) 24 rfl rfl k81 rfl (pd_inf _ _ _ _) (pd_one _ _ _ _) ?_
                  intro X2 h8 n8
                  have J2 := J1.but n8 hg8 hh8
                  have h72 := n8.blk7 h7 (by omega)
                  have z72 := own_but z71 n8 (fun e => by have := hy7 _ e.symm; omega)
                  have z82 := own_but z81 n8 (fun e => by have := hy8 _ e.symm; omega)
                  refine hK.out _ _ J2 (fun _ => ?_)
                  clear hK K
                  try simp only [Act.put, List.getElem_toArray, List.getElem_cons_zero, List.getElem_cons_succ, List.setIfInBounds_toArray, List.set_cons_zero, List.set_cons_succ]
                  refine wpAnyH_done (by kernel_rfl) ?_ _
                  exact ⟨rfl, (A7, m7, c7, A8, m8, c8, g7, g8), rfl, h72, h8, z72, z82, J2.1⟩
          · skip
            try simp only [Act.put, List.getElem_toArray, List.getElem_cons_zero, List.getElem_cons_succ, List.setIfInBounds_toArray, List.set_cons_zero, List.set_cons_succ]
            go_simp
            have k7 := Blk.new W0 (pdC 0 none 0 0) 24
            have bb : Below W0.heap.size W0 (W0.alloc (.cells (pdC 0 none 0 0) 24)) := (Below.refl _ _).alloc (Nat.le_refl _) _
            have hbg7 : W0.heap.size < (W0.alloc (.cells (pdC 0 none 0 0) 24)).heap.size := by simp
            show K _ (W0.alloc (.cells (pdC 0 none 0 0) 24))
            generalize W0.alloc (.cells (pdC 0 none 0 0) 24) = V17 at k7 bb hbg7 ⊢
            obtain ⟨g7, eg7⟩ : ∃ g, g = W0.heap.size := ⟨_, rfl⟩
            rw [← eg7] at k7 ⊢
            have Eg7 := Lib.hid eg7
            clear eg7
            have J := J.step bb
            have hs17 : W0.heap.size ≤ V17.heap.size := bb.size
            clear bb
            refine hK.out _ _ J (fun _ => ?_)
            clear hK K
            try simp only [Act.put, List.getElem_toArray, List.getElem_cons_zero, List.getElem_cons_succ, List.setIfInBounds_toArray, List.set_cons_zero, List.set_cons_succ]
            refine wpAnyH_ready (rs := [1, 7]) (by kernel_rfl) (by simp) ?_
            refine AllReadyH.cons rfl (fun K hK => ?_) (AllReadyH.cons rfl (fun K hK => ?_) AllReadyH.nil)
            · skip
              try simp only [Act.put, List.getElem_toArray, List.getElem_cons_zero, List.getElem_cons_succ, List.setIfInBounds_toArray, List.set_cons_zero, List.set_cons_succ]
              go_simp
              refine (short_pid x.1 x.2.1 x.2.2.1 x.2.2.2.1 x.2.2.2.2 V17 ((hrx.1.below J.1 (Nat.le_refl _)).more J.1.size) hrx.2.1 hrx.2.2).mono ?_
              rintro e V18 ⟨A7, m7, c7, rfl, z7, bb⟩
              go_wp2_with fail
              have J := J.step bb
              have k7 := k7.below bb k7.lt
              have bz7 : ∀ g, (Value.slice A7 m7 c7).ownBlock = some g → V17.heap.size ≤ g ∧ g < V18.heap.size := fun g e => z7.lt g e
              have hs18 : V17.heap.size ≤ V18.heap.size := bb.size
              have z7 := z7.down (b := w.heap.size) (by have := hw0; omega)
              clear bb
              refine hK.out _ _ J (fun _ => ?_)
              clear hK K
              try simp only [Act.put, List.getElem_toArray, List.getElem_cons_zero, List.getElem_cons_succ, List.setIfInBounds_toArray, List.set_cons_zero, List.set_cons_succ]
              refine wpAnyH_ready (rs := [5, 7]) (by kernel_rfl) (by simp) ?_
              refine AllReadyH.cons rfl (fun K hK => ?_) (AllReadyH.cons rfl (fun K hK => ?_) AllReadyH.nil)
              · skip
                try simp only [Act.put, List.getElem_toArray, List.getElem_cons_zero, List.getElem_cons_succ, List.setIfInBounds_toArray, List.set_cons_zero, List.set_cons_succ]
                go_simp
                refine (short_pid y.1 y.2.1 y.2.2.1 y.2.2.2.1 y.2.2.2.2 V18 ((hry.1.below J.1 (Nat.le_refl _)).more J.1.size) hry.2.1 hry.2.2).mono ?_
                rintro e V19 ⟨A8, m8, c8, rfl, z8, bb⟩
                go_wp2_with fail
                have J := J.step bb
                have k7 := k7.below bb k7.lt
                have z7 := z7.below bb (Nat.le_refl _)
                have bz8 : ∀ g, (Value.slice A8 m8 c8).ownBlock = some g → V18.heap.size ≤ g ∧ g < V19.heap.size := fun g e => z8.lt g e
                have hs19 : V18.heap.size ≤ V19.heap.size := bb.size
                have z8 := z8.down (b := w.heap.size) (by have := hw0; omega)
                clear bb
                refine hK.out _ _ J (fun _ => ?_)
                clear hK K
                try simp only [Act.put, List.getElem_toArray, List.getElem_cons_zero, List.getElem_cons_succ, List.setIfInBounds_toArray, List.set_cons_zero, List.set_cons_succ]
                refine wpAnyH_ready (rs := [7]) (by kernel_rfl) (by simp) ?_
                refine AllReadyH.cons rfl (fun K hK => ?_) AllReadyH.nil
                · skip
                  try simp only [Act.put, List.getElem_toArray, List.getElem_cons_zero, List.getElem_cons_succ, List.setIfInBounds_toArray, List.set_cons_zero, List.set_cons_succ]
                  go_simp
                  have k8 := Blk.new V19 (pdC 0 none 0 0) 24
                  have bb : Below V19.heap.size V19 (V19.alloc (.cells (pdC 0 none 0 0) 24)) := (Below.refl _ _).alloc (Nat.le_refl _) _
                  have hbg8 : V19.heap.size < (V19.alloc (.cells (pdC 0 none 0 0) 24)).heap.size := by simp
                  show K _ (V19.alloc (.cells (pdC 0 none 0 0) 24))
                  generalize V19.alloc (.cells (pdC 0 none 0 0) 24) = V20 at k8 bb hbg8 ⊢
                  obtain ⟨g8, eg8⟩ : ∃ g, g = V19.heap.size := ⟨_, rfl⟩
                  rw [← eg8] at k8 ⊢
                  have Eg8 := Lib.hid eg8
                  clear eg8
                  have J := J.step bb
                  have k7 := k7.below bb k7.lt
                  have z7 := z7.below bb (Nat.le_refl _)
                  have z8 := z8.below bb (Nat.le_refl _)
                  have hs20 : V19.heap.size ≤ V20.heap.size := bb.size
                  clear bb
                  refine hK.out _ _ J (fun _ => ?_)
                  clear hK K
                  try simp only [Act.put, List.getElem_toArray, List.getElem_cons_zero, List.getElem_cons_succ, List.setIfInBounds_toArray, List.set_cons_zero, List.set_cons_succ]
                  have eg7 := Eg7.out
                  have eg8 := Eg8.out
                  have hg7 : w.heap.size ≤ g7 := by omega
                  have hg8 : w.heap.size ≤ g8 := by omega
                  have hh7 : wr.heap.size < g7 := by omega
                  have hh8 : wr.heap.size < g8 := by omega
                  have hgg : g7 ≠ g8 := by omega
                  have hz7 : ∀ g, (Value.slice A7 m7 c7).ownBlock = some g → g ≠ g7 := fun g e => by have := bz7 g e; omega
                  have hz8 : ∀ g, (Value.slice A8 m8 c8).ownBlock = some g → g ≠ g7 := fun g e => by have := bz8 g e; omega
                  have hy7 : ∀ g, (Value.slice A7 m7 c7).ownBlock = some g → g ≠ g8 := fun g e => by have := bz7 g e; omega
                  have hy8 : ∀ g, (Value.slice A8 m8 c8).ownBlock = some g → g ≠ g8 := fun g e => by have := bz8 g e; omega
                  clear eg7 eg8
                  refine wpAnyH_ready (rs := [8]) (by kernel_rfl) (by simp) ?_
                  refine AllReadyH.cons rfl (fun K hK => ?_) AllReadyH.nil
                  try simp only [Act.put, List.getElem_toArray, List.getElem_cons_zero, List.getElem_cons_succ, List.setIfInBounds_toArray, List.set_cons_zero, List.set_cons_succ]
                  rw [if_pos (by rfl)]
                  refine wp_store_blk 24 (.tmp 7) (.tmp 24) rfl g7 (pdC 0 none 0 0) (pdC x.1 A7 m7 c7) 24 rfl rfl k7 rfl (pd_inf _ _ _ _) (pd_one _ _ _ _) ?_
                  intro X1 h7 n7
                  have J1 := J.but n7 hg7 hh7
                  have k81 := n7.blk7 k8 (by omega)
                  have z71 := own_but z7 n7 (fun e => by have := hz7 _ e.symm; omega)
                  have z81 := own_but z8 n7 (fun e => by have := hz8 _ e.symm; omega)
                  refine hK.out _ _ J1 (fun _ => ?_)
                  clear hK K
                  try simp only [Act.put, List.getElem_toArray, List.getElem_cons_zero, List.getElem_cons_succ, List.setIfInBounds_toArray, List.set_cons_zero, List.set_cons_succ]
                  refine wpAnyH_ready (rs := [9]) (by kernel_rfl) (by simp) ?_
                  refine AllReadyH.cons rfl (fun K hK => ?_) AllReadyH.nil
                  try simp only [Act.put, List.getElem_toArray, List.getElem_cons_zero, List.getElem_cons_succ, List.setIfInBounds_toArray, List.set_cons_zero, List.set_cons_succ]
                  rw [if_pos (by rfl)]
                  refine wp_store_blk 24 (.tmp 8) (.tmp 28) rfl g8 (pdC 0 none 0 0) (pdC y.1 A8 m8 c8) 24 rfl rfl k81 rfl (pd_inf _ _ _ _) (pd_one _ _ _ _) ?_
                  intro X2 h8 n8
                  have J2 := J1.but n8 hg8 hh8
                  have h72 := n8.blk7 h7 (by omega)
                  have z72 := own_but z71 n8 (fun e => by have := hy7 _ e.symm; omega)
                  have z82 := own_but z81 n8 (fun e => by have := hy8 _ e.symm; omega)
                  refine hK.out _ _ J2 (fun _ => ?_)
                  clear hK K
                  try simp only [Act.put, List.getElem_toArray, List.getElem_cons_zero, List.getElem_cons_succ, List.setIfInBounds_toArray, List.set_cons_zero, List.set_cons_succ]
                  refine wpAnyH_done (by kernel_rfl) ?_ _
                  exact ⟨rfl, (A7, m7, c7, A8, m8, c8, g7, g8), rfl, h72, h8, z72, z82, J2.1⟩
              · skip
                try simp only [Act.put, List.getElem_toArray, List.getElem_cons_zero, List.getElem_cons_succ, List.setIfInBounds_toArray, List.set_cons_zero, List.set_cons_succ]
                go_simp
                have k8 := Blk.new V18 (pdC 0 none 0 0) 24
                have bb : Below V18.heap.size V18 (V18.alloc (.cells (pdC 0 none 0 0) 24)) := (Below.refl _ _).alloc (Nat.le_refl _) _
                have hbg8 : V18.heap.size < (V18.alloc (.cells (pdC 0 none 0 0) 24)).heap.size := by simp
                show K _ (V18.alloc (.cells (pdC 0 none 0 0) 24))
                generalize V18.alloc (.cells (pdC 0 none 0 0) 24) = V21 at k8 bb hbg8 ⊢
                obtain ⟨g8, eg8⟩ : ∃ g, g = V18.heap.size := ⟨_, rfl⟩
                rw [← eg8] at k8 ⊢
                have Eg8 := Lib.hid eg8
                clear eg8
                have J := J.step bb
                have k7 := k7.below bb k7.lt
                have z7 := z7.below bb (Nat.le_refl _)
                have hs21 : V18.heap.size ≤ V21.heap.size := bb.size
                clear bb
                refine hK.out _ _ J (fun _ => ?_)
                clear hK K
                try simp only [Act.put, List.getElem_toArray, List.getElem_cons_zero, List.getElem_cons_succ, List.setIfInBounds_toArray, List.set_cons_zero, List.set_cons_succ]
                refine wpAnyH_ready (rs := [5]) (by kernel_rfl) (by simp) ?_
                refine AllReadyH.cons rfl (fun K hK => ?_) AllReadyH.nil
                · skip
                  try simp only [Act.put, List.getElem_toArray, List.getElem_cons_zero, List.getElem_cons_succ, List.setIfInBounds_toArray, List.set_cons_zero, List.set_cons_succ]
                  go_simp
                  refine (short_pid y.1 y.2.1 y.2.2.1 y.2.2.2.1 y.2.2.2.2 V21 ((hry.1.below J.1 (Nat.le_refl _)).more J.1.size) hry.2.1 hry.2.2).mono ?_
                  rintro e V22 ⟨A8, m8, c8, rfl, z8, bb⟩
                  go_wp2_with fail
                  have J := J.step bb
                  have k7 := k7.below bb k7.lt
                  have k8 := k8.below bb k8.lt
                  have z7 := z7.below bb (Nat.le_refl _)
                  have bz8 : ∀ g, (Value.slice A8 m8 c8).ownBlock = some g → V21.heap.size ≤ g ∧ g < V22.heap.size := fun g e => z8.lt g e
                  have hs22 : V21.heap.size ≤ V22.heap.size := bb.size
                  have z8 := z8.down (b := w.heap.size) (by have := hw0; omega)
                  clear bb
                  refine hK.out _ _ J (fun _ => ?_)
                  clear hK K
                  try simp only [Act.put, List.getElem_toArray, List.getElem_cons_zero, List.getElem_cons_succ, List.setIfInBounds_toArray, List.set_cons_zero, List.set_cons_succ]
                  have eg7 := Eg7.out
                  have eg8 := Eg8.out
                  have hg7 : w.heap.size ≤ g7 := by omega
                  have hg8 : w.heap.size ≤ g8 := by omega
                  have hh7 : wr.heap.size < g7 := by omega
                  have hh8 : wr.heap.size < g8 := by omega
                  have hgg : g7 ≠ g8 := by omega
                  have hz7 : ∀ g, (Value.slice A7 m7 c7).ownBlock = some g → g ≠ g7 := fun g e => by have := bz7 g e; omega
                  have hz8 : ∀ g, (Value.slice A8 m8 c8).ownBlock = some g → g ≠ g7 := fun g e => by have := bz8 g e; omega
                  have hy7 : ∀ g, (Value.slice A7 m7 c7).ownBlock = some g → g ≠ g8 := fun g e => by have := bz7 g e; omega
                  have hy8 : ∀ g, (Value.slice A8 m8 c8).ownBlock = some g → g ≠ g8 := fun g e => by have := bz8 g e; omega
                  clear eg7 eg8
                  refine wpAnyH_ready (rs := [8]) (by kernel_rfl) (by simp) ?_
                  refine AllReadyH.cons rfl (fun K hK => ?_) AllReadyH.nil
                  try simp only [Act.put, List.getElem_toArray, List.getElem_cons_zero, List.getElem_cons_succ, List.setIfInBounds_toArray, List.set_cons_zero, List.set_cons_succ]
                  rw [if_pos (by rfl)]
                  refine wp_store_blk 24 (.tmp 7) (.tmp 24) rfl g7 (pdC 0 none 0 0) (pdC x.1 A7 m7 c7) 24 rfl rfl k7 rfl (pd_inf _ _ _ _) (pd_one _ _ _ _) ?_
                  intro X1 h7 n7
                  have J1 := J.but n7 hg7 hh7
                  have k81 := n7.blk7 k8 (by omega)
                  have z71 := own_but z7 n7 (fun e => by have := hz7 _ e.symm; omega)
                  have z81 := own_but z8 n7 (fun e => by have := hz8 _ e.symm; omega)
                  refine hK.out _ _ J1 (fun _ => ?_)
                  clear hK K
                  try simp only [Act.put, List.getElem_toArray, List.getElem_cons_zero, List.getElem_cons_succ, List.setIfInBounds_toArray, List.set_cons_zero, List.set_cons_succ]
                  refine wpAnyH_ready (rs := [9]) (by kernel_rfl) (by simp) ?_
                  refine AllReadyH.cons rfl (fun K hK => ?_) AllReadyH.nil
                  try simp only [Act.put, List.getElem_toArray, List.getElem_cons_zero, List.getElem_cons_succ, List.setIfInBounds_toArray, List.set_cons_zero, List.set_cons_succ]
                  rw [if_pos (by rfl)]
                  refine wp_store_blk 24 (.tmp 8) (.tmp 28) rfl g8 (pdC 0 none 0 0) (pdC y.1 A8 m8 c8) 24 rfl rfl k81 rfl (pd_inf _ _ _ _) (pd_one _ _ _ _) ?_
                  intro X2 h8 n8
                  have J2 := J1.but n8 hg8 hh8
                  have h72 := n8.blk7 h7 (by omega)
                  have z72 := own_but z71 n8 (fun e => by have := hy7 _ e.symm; omega)
                  have z82 := own_but z81 n8 (fun e => by have := hy8 _ e.symm; omega)
                  refine hK.out _ _ J2 (fun _ => ?_)
                  clear hK K
                  try simp only [Act.put, List.getElem_toArray, List.getElem_cons_zero, List.getElem_cons_succ, List.setIfInBounds_toArray, List.set_cons_zero, List.set_cons_succ]
                  refine wpAnyH_done (by kernel_rfl) ?_ _
                  exact ⟨rfl, (A7, m7, c7, A8, m8, c8, g7, g8), rfl, h72, h8, z72, z82, J2.1⟩
            · skip
              try simp only [Act.put, List.getElem_toArray, List.getElem_cons_zero, List.getElem_cons_succ, List.setIfInBounds_toArray, List.set_cons_zero, List.set_cons_succ]
              go_simp
              have k8 := Blk.new V17 (pdC 0 none 0 0) 24
              have bb : Below V17.heap.size V17 (V17.alloc (.cells (pdC 0 none 0 0) 24)) := (Below.refl _ _).alloc (Nat.le_refl _) _
              have hbg8 : V17.heap.size < (V17.alloc (.cells (pdC 0 none 0 0) 24)).heap.size := by simp
              show K _ (V17.alloc (.cells (pdC 0 none 0 0) 24))
              generalize V17.alloc (.cells (pdC 0 none 0 0) 24) = V23 at k8 bb hbg8 ⊢
              obtain ⟨g8, eg8⟩ : ∃ g, g = V17.heap.size := ⟨_, rfl⟩
              rw [← eg8] at k8 ⊢
              have Eg8 := Lib.hid eg8
              clear eg8
              have J := J.step bb
              have k7 := k7.below bb k7.lt
              have hs23 : V17.heap.size ≤ V23.heap.size := bb.size
              clear bb
              refine hK.out _ _ J (fun _ => ?_)
              clear hK K
              try simp only [Act.put, List.getElem_toArray, List.getElem_cons_zero, List.getElem_cons_succ, List.setIfInBounds_toArray, List.set_cons_zero, List.set_cons_succ]
              refine wpAnyH_ready (rs := [1]) (by kernel_rfl) (by simp) ?_
              refine AllReadyH.cons rfl (fun K hK => ?_) AllReadyH.nil
              · skip
                try simp only [Act.put, List.getElem_toArray, List.getElem_cons_zero, List.getElem_cons_succ, List.setIfInBounds_toArray, List.set_cons_zero, List.set_cons_succ]
                go_simp
                refine (short_pid x.1 x.2.1 x.2.2.1 x.2.2.2.1 x.2.2.2.2 V23 ((hrx.1.below J.1 (Nat.le_refl _)).more J.1.size) hrx.2.1 hrx.2.2).mono ?_
                rintro e V24 ⟨A7, m7, c7, rfl, z7, bb⟩
                go_wp2_with fail
                have J := J.step bb
                have k7 := k7.below bb k7.lt
                have k8 := k8.below bb k8.lt
                have bz7 : ∀ g, (Value.slice A7 m7 c7).ownBlock = some g → V23.heap.size ≤ g ∧ g < V24.heap.size := fun g e => z7.lt g e
                have hs24 : V23.heap.size ≤ V24.heap.size := bb.size
                have z7 := z7.down (b := w.heap.size) (by have := hw0; omega)
                clear bb
                refine hK.out _ _ J (fun _ => ?_)
                clear hK K
                try simp only [Act.put, List.getElem_toArray, List.getElem_cons_zero, List.getElem_cons_succ, List.setIfInBounds_toArray, List.set_cons_zero, List.set_cons_succ]
                refine wpAnyH_ready (rs := [5]) (by kernel_rfl) (by simp) ?_
                refine AllReadyH.cons rfl (fun K hK => ?_) AllReadyH.nil
                · skip
                  try simp only [Act.put, List.getElem_toArray, List.getElem_cons_zero, List.getElem_cons_succ, List.setIfInBounds_toArray, List.set_cons_zero, List.set_cons_succ]
                  go_simp
                  refine (short_pid y.1 y.2.1 y.2.2.1 y.2.2.2.1 y.2.2.2.2 V24 ((hry.1.below J.1 (Nat.le_refl _)).more J.1.size) hry.2.1 hry.2.2).mono ?_
                  rintro e V25 ⟨A8, m8, c8, rfl, z8, bb⟩
                  go_wp2_with fail
                  have J := J.step bb
                  have k7 := k7.below bb k7.lt
                  have k8 := k8.below bb k8.lt
                  have z7 := z7.below bb (Nat.le_refl _)
                  have bz8 : ∀ g, (Value.slice A8 m8 c8).ownBlock = some g → V24.heap.size ≤ g ∧ g < V25.heap.size := fun g e => z8.lt g e
                  have hs25 : V24.heap.size ≤ V25.heap.size := bb.size
                  have z8 := z8.down (b := w.heap.size) (by have := hw0; omega)
                  clear bb
                  refine hK.out _ _ J (fun _ => ?_)
                  clear hK K
                  try simp only [Act.put, List.getElem_toArray, List.getElem_cons_zero, List.getElem_cons_succ, List.setIfInBounds_toArray, List.set_cons_zero, List.set_cons_succ]
                  have eg7 := Eg7.out
                  have eg8 := Eg8.out
                  have hg7 : w.heap.size ≤ g7 := by omega
                  have hg8 : w.heap.size ≤ g8 := by omega
                  have hh7 : wr.heap.size < g7 := by omega
                  have hh8 : wr.heap.size < g8 := by omega
                  have hgg : g7 ≠ g8 := by omega
                  have hz7 : ∀ g, (Value.slice A7 m7 c7).ownBlock = some g → g ≠ g7 := fun g e => by have := bz7 g e; omega
                  have hz8 : ∀ g, (Value.slice A8 m8 c8).ownBlock = some g → g ≠ g7 := fun g e => by have := bz8 g e; omega
                  have hy7 : ∀ g, (Value.slice A7 m7 c7).ownBlock = some g → g ≠ g8 := fun g e => by have := bz7 g e; omega
                  have hy8 : ∀ g, (Value.slice A8 m8 c8).ownBlock = some g → g ≠ g8 := fun g e => by have := bz8 g e; omega
                  clear eg7 eg8
                  refine wpAnyH_ready (rs := [8]) (by kernel_rfl) (by simp) ?_
                  refine AllReadyH.cons rfl (fun K hK => ?_) AllReadyH.nil
                  try simp only [Act.put, List.getElem_toArray, List.getElem_cons_zero, List.getElem_cons_succ, List.setIfInBounds_toArray, List.set_cons_zero, List.set_cons_succ]
                  rw [if_pos (by rfl)]
                  refine wp_store_blk 24 (.tmp 7) (.tmp 24) rfl g7 (pdC 0 none 0 0) (pdC x.1 A7 m7 c7) 24 rfl rfl k7 rfl (pd_inf _ _ _ _) (pd_one _ _ _ _) ?_
                  intro X1 h7 n7
                  have J1 := J.but n7 hg7 hh7
                  have k81 := n7.blk7 k8 (by omega)
                  have z71 := own_but z7 n7 (fun e => by have := hz7 _ e.symm; omega)
                  have z81 := own_but z8 n7 (fun e => by have := hz8 _ e.symm; omega)
                  refine hK.out _ _ J1 (fun _ => ?_)
                  clear hK K
                  try simp only [Act.put, List.getElem_toArray, List.getElem_cons_zero, List.getElem_cons_succ, List.setIfInBounds_toArray, List.set_cons_zero, List.set_cons_succ]
                  refine wpAnyH_ready (rs := [9]) (by kernel_rfl) (by simp) ?_
                  refine AllReadyH.cons rfl (fun K hK => ?_) AllReadyH.nil
                  try simp only [Act.put, List.getElem_toArray, List.getElem_cons_zero, List.getElem_cons_succ, List.setIfInBounds_toArray, List.set_cons_zero, List.set_cons_succ]
                  rw [if_pos (by rfl)]
                  refine wp_store_blk 24 (.tmp 8) (.tmp 28) rfl g8 (pdC 0 none 0 0) (pdC y.1 A8 m8 c8) 24 rfl rfl k81 rfl (pd_inf _ _ _ _) (pd_one _ _ _ _) ?_
                  intro X2 h8 n8
                  have J2 := J1.but n8 hg8 hh8
                  have h72 := n8.blk7 h7 (by omega)
                  have z72 := own_but z71 n8 (fun e => by have := hy7 _ e.symm; omega)
                  have z82 := own_but z81 n8 (fun e => by have := hy8 _ e.symm; omega)
                  refine hK.out _ _ J2 (fun _ => ?_)
                  clear hK K
                  try simp only [Act.put, List.getElem_toArray, List.getElem_cons_zero, List.getElem_cons_succ, List.setIfInBounds_toArray, List.set_cons_zero, List.set_cons_succ]
                  refine wpAnyH_done (by kernel_rfl) ?_ _
                  exact ⟨rfl, (A7, m7, c7, A8, m8, c8, g7, g8), rfl, h72, h8, z72, z82, J2.1⟩
          · skip
            try simp only [Act.put, List.getElem_toArray, List.getElem_cons_zero, List.getElem_cons_succ, List.setIfInBounds_toArray, List.set_cons_zero, List.set_cons_succ]
            go_simp
            have k8 := Blk.new W0 (pdC 0 none 0 0) 24
            have bb : Below W0.heap.size W0 (W0.alloc (.cells (pdC 0 none 0 0) 24)) := (Below.refl _ _).alloc (Nat.le_refl _) _
            have hbg8 : W0.heap.size < (W0.alloc (.cells (pdC 0 none 0 0) 24)).heap.size := by simp
            show K _ (W0.alloc (.cells (pdC 0 none 0 0) 24))
            generalize W0.alloc (.cells (pdC 0 none 0 0) 24) = V26 at k8 bb hbg8 ⊢
            obtain ⟨g8, eg8⟩ : ∃ g, g = W0.heap.size := ⟨_, rfl⟩
            rw [← eg8] at k8 ⊢
            have Eg8 := Lib.hid eg8
            clear eg8
            have J := J.step bb
            have hs26 : W0.heap.size ≤ V26.heap.size := bb.size
            clear bb
            refine hK.out _ _ J (fun _ => ?_)
            clear hK K
            try simp only [Act.put, List.getElem_toArray, List.getElem_cons_zero, List.getElem_cons_succ, List.setIfInBounds_toArray, List.set_cons_zero, List.set_cons_succ]
            refine wpAnyH_ready (rs := [1, 6]) (by kernel_rfl) (by simp) ?_
            refine AllReadyH.cons rfl (fun K hK => ?_) (AllReadyH.cons rfl (fun K hK => ?_) AllReadyH.nil)
            · skip
              try simp only [Act.put, List.getElem_toArray, List.getElem_cons_zero, List.getElem_cons_succ, List.setIfInBounds_toArray, List.set_cons_zero, List.set_cons_succ]
              go_simp
              refine (short_pid x.1 x.2.1 x.2.2.1 x.2.2.2.1 x.2.2.2.2 V26 ((hrx.1.below J.1 (Nat.le_refl _)).more J.1.size) hrx.2.1 hrx.2.2).mono ?_
              rintro e V27 ⟨A7, m7, c7, rfl, z7, bb⟩
              go_wp2_with fail
              have J := J.step bb
              have k8 := k8.below bb k8.lt
              have bz7 : ∀ g, (Value.slice A7 m7 c7).ownBlock = some g → V26.heap.size ≤ g ∧ g < V27.heap.size := fun g e => z7.lt g e
              have hs27 : V26.heap.size ≤ V27.heap.size := bb.size
              have z7 := z7.down (b := w.heap.size) (by have := hw0; omega)
              clear bb
              refine hK.out _ _ J (fun _ => ?_)
              clear hK K
              try simp only [Act.put, List.getElem_toArray, List.getElem_cons_zero, List.getElem_cons_succ, List.setIfInBounds_toArray, List.set_cons_zero, List.set_cons_succ]
              refine wpAnyH_ready (rs := [5, 6]) (by kernel_rfl) (by simp) ?_
              refine AllReadyH.cons rfl (fun K hK => ?_) (AllReadyH.cons rfl (fun K hK => ?_) AllReadyH.nil)
              · skip
                try simp only [Act.put, List.getElem_toArray, List.getElem_cons_zero, List.getElem_cons_succ, List.setIfInBounds_toArray, List.set_cons_zero, List.set_cons_succ]
                go_simp
                refine (short_pid y.1 y.2.1 y.2.2.1 y.2.2.2.1 y.2.2.2.2 V27 ((hry.1.below J.1 (Nat.le_refl _)).more J.1.size) hry.2.1 hry.2.2).mono ?_
                rintro e V28 ⟨A8, m8, c8, rfl, z8, bb⟩
                go_wp2_with fail
                have J := J.step bb
                have k8 := k8.below bb k8.lt
                have z7 := z7.below bb (Nat.le_refl _)
                have bz8 : ∀ g, (Value.slice A8 m8 c8).ownBlock = some g → V27.heap.size ≤ g ∧ g < V28.heap.size := fun g e => z8.lt g e
                have hs28 : V27.heap.size ≤ V28.heap.size := bb.size
                have z8 := z8.down (b := w.heap.size) (by have := hw0; omega)
                clear bb
                refine hK.out _ _ J (fun _ => ?_)
                clear hK K
                try simp only [Act.put, List.getElem_toArray, List.getElem_cons_zero, List.getElem_cons_succ, List.setIfInBounds_toArray, List.set_cons_zero, List.set_cons_succ]
                refine wpAnyH_ready (rs := [6]) (by kernel_rfl) (by simp) ?_
                refine AllReadyH.cons rfl (fun K hK => ?_) AllReadyH.nil
                · skip
                  try simp only [Act.put, List.getElem_toArray, List.getElem_cons_zero, List.getElem_cons_succ, List.setIfInBounds_toArray, List.set_cons_zero, List.set_cons_succ]
                  go_simp
                  have k7 := Blk.new V28 (pdC 0 none 0 0) 24
                  have bb : Below V28.heap.size V28 (V28.alloc (.cells (pdC 0 none 0 0) 24)) := (Below.refl _ _).alloc (Nat.le_refl _) _
                  have hbg7 : V28.heap.size < (V28.alloc (.cells (pdC 0 none 0 0) 24)).heap.size := by simp
                  show K _ (V28.alloc (.cells (pdC 0 none 0 0) 24))
                  generalize V28.alloc (.cells (pdC 0 none 0 0) 24) = V29 at k7 bb hbg7 ⊢
                  obtain ⟨g7, eg7⟩ : ∃ g, g = V28.heap.size := ⟨_, rfl⟩
                  rw [← eg7] at k7 ⊢
                  have Eg7 := Lib.hid eg7
                  clear eg7
                  have J := J.step bb
                  have k8 := k8.below bb k8.lt
                  have z7 := z7.below bb (Nat.le_refl _)
                  have z8 := z8.below bb (Nat.le_refl _)
                  have hs29 : V28.heap.size ≤ V29.heap.size := bb.size
                  clear bb
                  refine hK.out _ _ J (fun _ => ?_)
                  clear hK K
                  try simp only [Act.put, List.getElem_toArray, List.getElem_cons_zero, List.getElem_cons_succ, List.setIfInBounds_toArray, List.set_cons_zero, List.set_cons_succ]
                  have eg7 := Eg7.out
                  have eg8 := Eg8.out
                  have hg7 : w.heap.size ≤ g7 := by omega
                  have hg8 : w.heap.size ≤ g8 := by omega
                  have hh7 : wr.heap.size < g7 := by omega
                  have hh8 : wr.heap.size < g8 := by omega
                  have hgg : g7 ≠ g8 := by omega
                  have hz7 : ∀ g, (Value.slice A7 m7 c7).ownBlock = some g → g ≠ g7 := fun g e => by have := bz7 g e; omega
                  have hz8 : ∀ g, (Value.slice A8 m8 c8).ownBlock = some g → g ≠ g7 := fun g e => by have := bz8 g e; omega
                  have hy7 : ∀ g, (Value.slice A7 m7 c7).ownBlock = some g → g ≠ g8 := fun g e => by have := bz7 g e; omega
                  have hy8 : ∀ g, (Value.slice A8 m8 c8).ownBlock = some g → g ≠ g8 := fun g e => by have := bz8 g e; omega
                  clear eg7 eg8
                  refine wpAnyH_ready (rs := [8]) (by kernel_rfl) (by simp) ?_
                  refine AllReadyH.cons rfl (fun K hK => ?_) AllReadyH.nil
                  try simp only [Act.put, List.getElem_toArray, List.getElem_cons_zero, List.getElem_cons_succ, List.setIfInBounds_toArray, List.set_cons_zero, List.set_cons_succ]
                  rw [if_pos (by rfl)]
                  refine wp_store_blk 24 (.tmp 7) (.tmp 24) rfl g7 (pdC 0 none 0 0) (pdC x.1 A7 m7 c7) 24 rfl rfl k7 rfl (pd_inf _ _ _ _) (pd_one _ _ _ _) ?_
                  intro X1 h7 n7
                  have J1 := J.but n7 hg7 hh7
                  have k81 := n7.blk7 k8 (by omega)
                  have z71 := own_but z7 n7 (fun e => by have := hz7 _ e.symm; omega)
                  have z81 := own_but z8 n7 (fun e => by have := hz8 _ e.symm; omega)
                  refine hK.out _ _ J1 (fun _ => ?_)
                  clear hK K
                  try simp only [Act.put, List.getElem_toArray, List.getElem_cons_zero, List.getElem_cons_succ, List.setIfInBounds_toArray, List.set_cons_zero, List.set_cons_succ]
                  refine wpAnyH_ready (rs := [9]) (by kernel_rfl) (by simp) ?_
                  refine AllReadyH.cons rfl (fun K hK => ?_) AllReadyH.nil
                  try simp only [Act.put, List.getElem_toArray, List.getElem_cons_zero, List.getElem_cons_succ, List.setIfInBounds_toArray, List.set_cons_zero, List.set_cons_succ]
                  rw [if_pos (by rfl)]
                  refine wp_store_blk 24 (.tmp 8) (.tmp 28) rfl g8 (pdC 0 none 0 0) (pdC y.1 A8 m8 c8) 24 rfl rfl k81 rfl (pd_inf _ _ _ _) (pd_one _ _ _ _) ?_
                  intro X2 h8 n8
                  have J2 := J1.but n8 hg8 hh8
                  have h72 := n8.blk7 h7 (by omega)
                  have z72 := own_but z71 n8 (fun e => by have := hy7 _ e.symm; omega)
                  have z82 := own_but z81 n8 (fun e => by have := hy8 _ e.symm; omega)
                  refine hK.out _ _ J2 (fun _ => ?_)
                  clear hK K
                  try simp only [Act.put, List.getElem_toArray, List.getElem_cons_zero, List.getElem_cons_succ, List.setIfInBounds_toArray, List.set_cons_zero, List.set_cons_succ]
                  refine wpAnyH_done (by kernel_rfl) ?_ _
                  exact ⟨rfl, (A7, m7, c7, A8, m8, c8, g7, g8), rfl, h72, h8, z72, z82, J2.1⟩
              · skip
                try simp only [Act.put, List.getElem_toArray, List.getElem_cons_zero, List.getElem_cons_succ, List.setIfInBounds_toArray, List.set_cons_zero, List.set_cons_succ]
                go_simp
                have k7 := Blk.new V27 (pdC 0 none 0 0) 24
                have bb : Below V27.heap.size V27 (V27.alloc (.cells (pdC 0 none 0 0) 24)) := (Below.refl _ _).alloc (Nat.le_refl _) _
                have hbg7 : V27.heap.size < (V27.alloc (.cells (pdC 0 none 0 0) 24)).heap.size := by simp
                show K _ (V27.alloc (.cells (pdC 0 none 0 0) 24))
                generalize V27.alloc (.cells (pdC 0 none 0 0) 24) = V30 at k7 bb hbg7 ⊢
                obtain ⟨g7, eg7⟩ : ∃ g, g = V27.heap.size := ⟨_, rfl⟩
                rw [← eg7] at k7 ⊢
                have Eg7 := Lib.hid eg7
                clear eg7
                have J := J.step bb
                have k8 := k8.below bb k8.lt
                have z7 := z7.below bb (Nat.le_refl _)
                have hs30 : V27.heap.size ≤ V30.heap.size := bb.size
                clear bb
                refine hK.out _ _ J (fun _ => ?_)
                clear hK K
                try simp only [Act.put, List.getElem_toArray, List.getElem_cons_zero, List.getElem_cons_succ, List.setIfInBounds_toArray, List.set_cons_zero, List.set_cons_succ]
                refine wpAnyH_ready (rs := [5]) (by kernel_rfl) (by simp) ?_
                refine AllReadyH.cons rfl (fun K hK => ?_) AllReadyH.nil
                · skip
                  try simp only [Act.put, List.getElem_toArray, List.getElem_cons_zero, List.getElem_cons_succ, List.setIfInBounds_toArray, List.set_cons_zero, List.set_cons_succ]
                  go_simp
                  refine (short_pid y.1 y.2.1 y.2.2.1 y.2.2.2.1 y.2.2.2.2 V30 ((hry.1.below J.1 (Nat.le_refl _)).more J.1.size) hry.2.1 hry.2.2).mono ?_
                  rintro e V31 ⟨A8, m8, c8, rfl, z8, bb⟩
                  go_wp2_with fail
                  have J := J.step bb
                  have k7 := k7.below bb k7.lt
                  have k8 := k8.below bb k8.lt
                  have z7 := z7.below bb (Nat.le_refl _)
                  have bz8 : ∀ g, (Value.slice A8 m8 c8).ownBlock = some g → V30.heap.size ≤ g ∧ g < V31.heap.size := fun g e => z8.lt g e
                  have hs31 : V30.heap.size ≤ V31.heap.size := bb.size
                  have z8 := z8.down (b := w.heap.size) (by have := hw0; omega)
                  clear bb
                  refine hK.out _ _ J (fun _ => ?_)
                  clear hK K
                  try simp only [Act.put, List.getElem_toArray, List.getElem_cons_zero, List.getElem_cons_succ, List.setIfInBounds_toArray, List.set_cons_zero, List.set_cons_succ]
                  have eg7 := Eg7.out
                  have eg8 := Eg8.out
                  have hg7 : w.heap.size ≤ g7 := by omega
                  have hg8 : w.heap.size ≤ g8 := by omega
                  have hh7 : wr.heap.size < g7 := by omega
                  have hh8 : wr.heap.size < g8 := by omega
                  have hgg : g7 ≠ g8 := by omega
                  have hz7 : ∀ g, (Value.slice A7 m7 c7).ownBlock = some g → g ≠ g7 := fun g e => by have := bz7 g e; omega
                  have hz8 : ∀ g, (Value.slice A8 m8 c8).ownBlock = some g → g ≠ g7 := fun g e => by have := bz8 g e; omega
                  have hy7 : ∀ g, (Value.slice A7 m7 c7).ownBlock = some g → g ≠ g8 := fun g e => by have := bz7 g e; omega
                  have hy8 : ∀ g, (Value.slice A8 m8 c8).ownBlock = some g → g ≠ g8 := fun g e => by have := bz8 g e; omega
                  clear eg7 eg8
                  refine wpAnyH_ready (rs := [8]) (by kernel_rfl) (by simp) ?_
                  refine AllReadyH.cons rfl (fun K hK => ?_) AllReadyH.nil
                  try simp only [Act.put, List.getElem_toArray, List.getElem_cons_zero, List.getElem_cons_succ, List.setIfInBounds_toArray, List.set_cons_zero, List.set_cons_succ]
                  rw [if_pos (by rfl)]
                  refine wp_store_blk 24 (.tmp 7) (.tmp 24) rfl g7 (pdC 0 none 0 0) (pdC x.1 A7 m7 c7) 24 rfl rfl k7 rfl (pd_inf _ _ _ _) (pd_one _ _ _ _) ?_
                  intro X1 h7 n7
                  have J1 := J.but n7 hg7 hh7
                  have k81 := n7.blk7 k8 (by omega)
                  have z71 := own_but z7 n7 (fun e => by have := hz7 _ e.symm; omega)
                  have z81 := own_but z8 n7 (fun e => by have := hz8 _ e.symm; omega)
                  refine hK.out _ _ J1 (fun _ => ?_)
                  clear hK K
                  try simp only [Act.put, List.getElem_toArray, List.getElem_cons_zero, List.getElem_cons_succ, List.setIfInBounds_toArray, List.set_cons_zero, List.set_cons_succ]
                  refine wpAnyH_ready (rs := [9]) (by kernel_rfl) (by simp) ?_
                  refine AllReadyH.cons rfl (fun K hK => ?_) AllReadyH.nil
                  try simp only [Act.put, List.getElem_toArray, List.getElem_cons_zero, List.getElem_cons_succ, List.setIfInBounds_toArray, List.set_cons_zero, List.set_cons_succ]
                  rw [if_pos (by rfl)]
                  refine wp_store_blk 24 (.tmp 8) (.tmp 28) rfl g8 (pdC 0 none 0 0) (pdC y.1 A8 m8 c8) 24 rfl rfl k81 rfl (pd_inf _ _ _ _) (pd_one _ _ _ _) ?_
                  intro X2 h8 n8
                  have J2 := J1.but n8 hg8 hh8
                  have h72 := n8.blk7 h7 (by omega)
                  have z72 := own_but z71 n8 (fun e => by have := hy7 _ e.symm; omega)
                  have z82 := own_but z81 n8 (fun e => by have := hy8 _ e.symm; omega)
                  refine hK.out _ _ J2 (fun _ => ?_)
                  clear hK K
                  try simp only [Act.put, List.getElem_toArray, List.getElem_cons_zero, List.getElem_cons_succ, List.setIfInBounds_toArray, List.set_cons_zero, List.set_cons_succ]
                  refine wpAnyH_done (by kernel_rfl) ?_ _
                  exact ⟨rfl, (A7, m7, c7, A8, m8, c8, g7, g8), rfl, h72, h8, z72, z82, J2.1⟩
            · skip
              try simp only [Act.put, List.getElem_toArray, List.getElem_cons_zero, List.getElem_cons_succ, List.setIfInBounds_toArray, List.set_cons_zero, List.set_cons_succ]
              go_simp
              have k7 := Blk.new V26 (pdC 0 none 0 0) 24
              have bb : Below V26.heap.size V26 (V26.alloc (.cells (pdC 0 none 0 0) 24)) := (Below.refl _ _).alloc (Nat.le_refl _) _
              have hbg7 : V26.heap.size < (V26.alloc (.cells (pdC 0 none 0 0) 24)).heap.size := by simp
              show K _ (V26.alloc (.cells (pdC 0 none 0 0) 24))
              generalize V26.alloc (.cells (pdC 0 none 0 0) 24) = V32 at k7 bb hbg7 ⊢
              obtain ⟨g7, eg7⟩ : ∃ g, g = V26.heap.size := ⟨_, rfl⟩
              rw [← eg7] at k7 ⊢
              have Eg7 := Lib.hid eg7
              clear eg7
              have J := J.step bb
              have k8 := k8.below bb k8.lt
              have hs32 : V26.heap.size ≤ V32.heap.size := bb.size
              clear bb
              refine hK.out _ _ J (fun _ => ?_)
              clear hK K
              try simp only [Act.put, List.getElem_toArray, List.getElem_cons_zero, List.getElem_cons_succ, List.setIfInBounds_toArray, List.set_cons_zero, List.set_cons_succ]
              refine wpAnyH_ready (rs := [1]) (by kernel_rfl) (by simp) ?_
              refine AllReadyH.cons rfl (fun K hK => ?_) AllReadyH.nil
              · skip
                try simp only [Act.put, List.getElem_toArray, List.getElem_cons_zero, List.getElem_cons_succ, List.setIfInBounds_toArray, List.set_cons_zero, List.set_cons_succ]
                go_simp
                refine (short_pid x.1 x.2.1 x.2.2.1 x.2.2.2.1 x.2.2.2.2 V32 ((hrx.1.below J.1 (Nat.le_refl _)).more J.1.size) hrx.2.1 hrx.2.2).mono ?_
                rintro e V33 ⟨A7, m7, c7, rfl, z7, bb⟩
                go_wp2_with fail
                have J := J.step bb
                have k7 := k7.below bb k7.lt
                have k8 := k8.below bb k8.lt
                have bz7 : ∀ g, (Value.slice A7 m7 c7).ownBlock = some g → V32.heap.size ≤ g ∧ g < V33.heap.size := fun g e => z7.lt g e
                have hs33 : V32.heap.size ≤ V33.heap.size := bb.size
                have z7 := z7.down (b := w.heap.size) (by have := hw0; omega)
                clear bb
                refine hK.out _ _ J (fun _ => ?_)
                clear hK K
                try simp only [Act.put, List.getElem_toArray, List.getElem_cons_zero, List.getElem_cons_succ, List.setIfInBounds_toArray, List.set_cons_zero, List.set_cons_succ]
                refine wpAnyH_ready (rs := [5]) (by kernel_rfl) (by simp) ?_
                refine AllReadyH.cons rfl (fun K hK => ?_) AllReadyH.nil
                · skip
                  try simp only [Act.put, List.getElem_toArray, List.getElem_cons_zero, List.getElem_cons_succ, List.setIfInBounds_toArray, List.set_cons_zero, List.set_cons_succ]
                  go_simp
                  refine (short_pid y.1 y.2.1 y.2.2.1 y.2.2.2.1 y.2.2.2.2 V33 ((hry.1.below J.1 (Nat.le_refl _)).more J.1.size) hry.2.1 hry.2.2).mono ?_
                  rintro e V34 ⟨A8, m8, c8, rfl, z8, bb⟩
                  go_wp2_with fail
                  have J := J.step bb
                  have k7 := k7.below bb k7.lt
                  have k8 := k8.below bb k8.lt
                  have z7 := z7.below bb (Nat.le_refl _)
                  have bz8 : ∀ g, (Value.slice A8 m8 c8).ownBlock = some g → V33.heap.size ≤ g ∧ g < V34.heap.size := fun g e => z8.lt g e
                  have hs34 : V33.heap.size ≤ V34.heap.size := bb.size
                  have z8 := z8.down (b := w.heap.size) (by have := hw0; omega)
                  clear bb
                  refine hK.out _ _ J (fun _ => ?_)
                  clear hK K
                  try simp only [Act.put, List.getElem_toArray, List.getElem_cons_zero, List.getElem_cons_succ, List.setIfInBounds_toArray, List.set_cons_zero, List.set_cons_succ]
                  have eg7 := Eg7.out
                  have eg8 := Eg8.out
                  have hg7 : w.heap.size ≤ g7 := by omega
                  have hg8 : w.heap.size ≤ g8 := by omega
                  have hh7 : wr.heap.size < g7 := by omega
                  have hh8 : wr.heap.size < g8 := by omega
                  have hgg : g7 ≠ g8 := by omega
                  have hz7 : ∀ g, (Value.slice A7 m7 c7).ownBlock = some g → g ≠ g7 := fun g e => by have := bz7 g e; omega
                  have hz8 : ∀ g, (Value.slice A8 m8 c8).ownBlock = some g → g ≠ g7 := fun g e => by have := bz8 g e; omega
                  have hy7 : ∀ g, (Value.slice A7 m7 c7).ownBlock = some g → g ≠ g8 := fun g e => by have := bz7 g e; omega
                  have hy8 : ∀ g, (Value.slice A8 m8 c8).ownBlock = some g → g ≠ g8 := fun g e => by have := bz8 g e; omega
                  clear eg7 eg8
                  refine wpAnyH_ready (rs := [8]) (by kernel_rfl) (by simp) ?_
                  refine AllReadyH.cons rfl (fun K hK => ?_) AllReadyH.nil
                  try simp only [Act.put, List.getElem_toArray, List.getElem_cons_zero, List.getElem_cons_succ, List.setIfInBounds_toArray, List.set_cons_zero, List.set_cons_succ]
                  rw [if_pos (by rfl)]
                  refine wp_store_blk 24 (.tmp 7) (.tmp 24) rfl g7 (pdC 0 none 0 0) (pdC x.1 A7 m7 c7) 24 rfl rfl k7 rfl (pd_inf _ _ _ _) (pd_one _ _ _ _) ?_
                  intro X1 h7 n7
                  have J1 := J.but n7 hg7 hh7
                  have k81 := n7.blk7 k8 (by omega)
                  have z71 := own_but z7 n7 (fun e => by have := hz7 _ e.symm; omega)
                  have z81 := own_but z8 n7 (fun e => by have := hz8 _ e.symm; omega)
                  refine hK.out _ _ J1 (fun _ => ?_)
                  clear hK K
                  try simp only [Act.put, List.getElem_toArray, List.getElem_cons_zero, List.getElem_cons_succ, List.setIfInBounds_toArray, List.set_cons_zero, List.set_cons_succ]
                  refine wpAnyH_ready (rs := [9]) (by kernel_rfl) (by simp) ?_
                  refine AllReadyH.cons rfl (fun K hK => ?_) AllReadyH.nil
                  try simp only [Act.put, List.getElem_toArray, List.getElem_cons_zero, List.getElem_cons_succ, List.setIfInBounds_toArray, List.set_cons_zero, List.set_cons_succ]
                  rw [if_pos (by rfl)]
                  refine wp_store_blk 24 (.tmp 8) (.tmp 28) rfl g8 (pdC 0 none 0 0) (pdC y.1 A8 m8 c8) 24 rfl rfl k81 rfl (pd_inf _ _ _ _) (pd_one _ _ _ _) ?_
                  intro X2 h8 n8
                  have J2 := J1.but n8 hg8 hh8
                  have h72 := n8.blk7 h7 (by omega)
                  have z72 := own_but z71 n8 (fun e => by have := hy7 _ e.symm; omega)
                  have z82 := own_but z81 n8 (fun e => by have := hy8 _ e.symm; omega)
                  refine hK.out _ _ J2 (fun _ => ?_)
                  clear hK K
                  try simp only [Act.put, List.getElem_toArray, List.getElem_cons_zero, List.getElem_cons_succ, List.setIfInBounds_toArray, List.set_cons_zero, List.set_cons_succ]
                  refine wpAnyH_done (by kernel_rfl) ?_ _
                  exact ⟨rfl, (A7, m7, c7, A8, m8, c8, g7, g8), rfl, h72, h8, z72, z82, J2.1⟩
        · rintro ⟨A7, m7, c7, A8, m8, c8, g7, g8⟩ V2 ⟨k7, k8, z7, z8, hB2⟩
          simp only at k7 k8 z7 z8 ⊢
          have hl7 : (x.2.2.2.2.take 22).length ≤ 22 := by rw [List.length_take]; omega
          have hl8 : (y.2.2.2.2.take 22).length ≤ 22 := by rw [List.length_take]; omega
          generalize x.2.2.2.2.take 22 = lx at z7 hl7
          generalize y.2.2.2.2.take 22 = ly at z8 hl8
          clear k6 hB1 hcr hc0' hr hr0
          have ch := pcheck_pid x.1 A7 m7 c7 lx V2 z7.ri z7.len (by have := z7.len; omega)
          obtain ⟨ck, hck⟩ : ∃ ck, pidE x.1 lx = ck := ⟨_, rfl⟩
          have hck2 := pidE_or x.1 lx
          rw [hck] at ch hck2
          have HL7 := Lib.hid hl7
          have HL8 := Lib.hid hl8
          unfold pdV at ch
          go_wp2_with (refine wpList_load_row rfl 24 (.tmp 7) rfl g7 rfl 24 (pdC x.1 A7 m7 c7) (0, 0) _ k7.blk Try.underlying24 rfl (pd_inf _ _ _ _) ?_)
          refine ch.mono ?_
          rintro e V3 ⟨rfl, bb⟩
          have JS : TS w x y A7 m7 c7 A8 m8 c8 g7 g8 lx ly V3 := ⟨k7.below bb k7.lt, k8.below bb k8.lt, z7.below bb (Nat.le_refl _), z8.below bb (Nat.le_refl _), hB2.trans (bb.mono hB2.size)⟩
          clear ch bb k7 k8 z7 z8 hB2 hl7 hl8
          obtain ⟨bs, hbs⟩ : ∃ bs, ((x.1 == y.1) && (lx == ly)) = bs := ⟨_, rfl⟩
          have CR := Lib.hid (calls_keep (S := TS w x y A7 m7 c7 A8 m8 c8 g7 g8 lx ly) (fun _ _ => TS.step) (fun V hV => rright_pid x.1 A7 m7 c7 lx V hV.z7.ri hV.z7.len (by have := hV.z7.len; have := HL7.out; omega)))
          have CP := Lib.hid (calls_keep (S := TS w x y A7 m7 c7 A8 m8 c8 g7 g8 lx ly) (fun _ _ => TS.step) (fun V hV => same_pid x.1 A7 m7 c7 lx y.1 A8 m8 c8 ly V hV.z7.ri hV.z7.len (by have := hV.z7.len; have := HL7.out; omega) hV.z8.ri hV.z8.len))
          have CQ := Lib.hid (calls_keep (S := TS w x y A7 m7 c7 A8 m8 c8 g7 g8 lx ly) (fun _ _ => TS.step) (fun V hV => rsame_pid x.1 A7 m7 c7 lx y.1 A8 m8 c8 ly V hV.z7.ri hV.z7.len (by have := hV.z7.len; have := HL7.out; omega) hV.z8.ri hV.z8.len))
          rw [hck] at CR
          rw [hbs] at CP CQ
          unfold pdV at CR CP CQ
          clear hbs hck
          go_wp2_with fail
          rcases hck2 with rfl | rfl
          · rw [show ((0 : Int) == 0) = true from rfl] at CR
            cases bs
            · skip
              have Jd : TS w x y A7 m7 c7 A8 m8 c8 g7 g8 lx ly V3.drew := JS.step ((Below.refl _ _).drew)
              refine region_class (S := TS w x y A7 m7 c7 A8 m8 c8 g7 g8 lx ly) (by kernel_rfl) (by kernel_rfl) Jd ?_
              iterate 2 go_big_quiet_step (rfl)
              refine class_load (by rfl) 24 (.tmp 7) rfl g7 rfl (pdC x.1 A7 m7 c7) 24 _ (fun _ h => h.k7) Try.underlying24 rfl (pd_inf _ _ _ _) ?_
              simp only [Act.put, List.setIfInBounds_toArray, List.set_cons_zero, List.set_cons_succ]
              go_big_quiet_step (first | (go_at_call 9; exact class_call _ CR.out))
              iterate 10 go_big_quiet_step (rfl)
              refine class_load (by rfl) 24 (.tmp 7) rfl g7 rfl (pdC x.1 A7 m7 c7) 24 _ (fun _ h => h.k7) Try.underlying24 rfl (pd_inf _ _ _ _) ?_
              simp only [Act.put, List.setIfInBounds_toArray, List.set_cons_zero, List.set_cons_succ]
              refine class_load (by rfl) 24 (.tmp 8) rfl g8 rfl (pdC y.1 A8 m8 c8) 24 _ (fun _ h => h.k8) Try.underlying24 rfl (pd_inf _ _ _ _) ?_
              simp only [Act.put, List.setIfInBounds_toArray, List.set_cons_zero, List.set_cons_succ]
              go_big_quiet_step (first | (go_at_call 17; exact class_call _ CP.out))
              refine class_load (by rfl) 24 (.tmp 7) rfl g7 rfl (pdC x.1 A7 m7 c7) 24 _ (fun _ h => h.k7) Try.underlying24 rfl (pd_inf _ _ _ _) ?_
              simp only [Act.put, List.setIfInBounds_toArray, List.set_cons_zero, List.set_cons_succ]
              refine class_load (by rfl) 24 (.tmp 8) rfl g8 rfl (pdC y.1 A8 m8 c8) 24 _ (fun _ h => h.k8) Try.underlying24 rfl (pd_inf _ _ _ _) ?_
              simp only [Act.put, List.setIfInBounds_toArray, List.set_cons_zero, List.set_cons_succ]
              go_big_quiet_step (first | (go_at_call 14; exact class_call _ CQ.out))
              repeat (go_big_quiet_step (rfl))
              refine wpQuiet_nil ?_
              rintro _ ⟨s4, rfl⟩
              have J4 := s4.h
              clear Jd CR CP CQ
              go_wp2_with fail
              go_loopw [55] (fun iv wr' => ∃ (j : Nat) (wr : World), wr = wr' ∧ j ≤ m0 ∧ iv = .int .i64 j ∧ TS w x y A7 m7 c7 A8 m8 c8 g7 g8 lx ly wr) (fun iv _ => m0 - (intOf iv).toNat)
              case atStart => exact ⟨0, _, rfl, Nat.zero_le _, rfl, J4⟩
              case round =>
                clear J4
                obtain ⟨j, wq, hwq, hj, rfl, JJ⟩ := hrel
                subst hwq
                by_cases hjt : j < m0
                · have hjt' : (j : Int) < (m0 : Int) := by omega
                  have hjl : j < os.length := by have := HM0.out; omega
                  obtain ⟨b1, off1, rfl, hb1, hc1⟩ := hA0.below JJ.b (Nat.le_refl _) j hjl
                  generalize os.getD j 0 = o at hc1
                  have HJ := Lib.hid hjt
                  clear hjl hjt
                  have Jd : TS w x y A7 m7 c7 A8 m8 c8 g7 g8 lx ly wq.drew := JJ.step ((Below.refl _ _).drew)
                  obtain ⟨bh, hbh⟩ : ∃ bh, lx.contains o = bh := ⟨_, rfl⟩
                  have CH := Lib.hid (calls_keep (S := TS w x y A7 m7 c7 A8 m8 c8 g7 g8 lx ly) (fun _ _ => TS.step) (fun V hV => has_pid x.1 A7 m7 c7 lx o V hV.z7.ri hV.z7.len hV.z7.cap (by have := hV.z7.len; have := HL7.out; omega)))
                  have CK := Lib.hid (calls_keep (S := TS w x y A7 m7 c7 A8 m8 c8 g7 g8 lx ly) (fun _ _ => TS.step) (fun V hV => rhas_pid x.1 A7 m7 c7 lx o V hV.z7.ri hV.z7.len (by have := hV.z7.len; have := HL7.out; omega)))
                  rw [hbh] at CH CK
                  unfold pdV at CH CK
                  clear hbh
                  cases h30 : decide ((j : Int) < 30)
                  · go_wp2_with fail
                    refine region_class (S := TS w x y A7 m7 c7 A8 m8 c8 g7 g8 lx ly) (by kernel_rfl) (by kernel_rfl) Jd ?_
                    repeat (go_big_quiet_step (rfl))
                    refine wpQuiet_nil ?_
                    rintro _ ⟨s5, rfl⟩
                    have J5 := s5.h
                    clear Jd CH CK
                    go_wp2_with fail
                    go_roundw
                    case rel => exact ⟨j + 1, _, rfl, by have := HJ.out; omega, by go_num, J5⟩
                    case measure => have := HJ.out; simp [intOf]; omega
                  · cases bh
                    all_goals
                      go_wp2_with fail
                      refine region_class (S := TS w x y A7 m7 c7 A8 m8 c8 g7 g8 lx ly) (by kernel_rfl) (by kernel_rfl) Jd ?_
                      iterate 3 go_big_quiet_step (rfl)
                      refine class_load (by rfl) 24 (.tmp 7) rfl g7 rfl (pdC x.1 A7 m7 c7) 24 _ (fun _ h => h.k7) Try.underlying24 rfl (pd_inf _ _ _ _) ?_
                      simp only [Act.put, List.setIfInBounds_toArray, List.set_cons_zero, List.set_cons_succ]
                      go_big_quiet_step (rfl)
                      go_big_quiet_step (first | (go_at_call 18; exact class_call _ CH.out))
                      refine class_load (by rfl) 24 (.tmp 7) rfl g7 rfl (pdC x.1 A7 m7 c7) 24 _ (fun _ h => h.k7) Try.underlying24 rfl (pd_inf _ _ _ _) ?_
                      simp only [Act.put, List.setIfInBounds_toArray, List.set_cons_zero, List.set_cons_succ]
                      go_big_quiet_step (rfl)
                      go_big_quiet_step (first | (go_at_call 19; exact class_call _ CK.out))
                      repeat (go_big_quiet_step (rfl))
                      refine wpQuiet_nil ?_
                      rintro _ ⟨s5, rfl⟩
                      have J5 := s5.h
                      clear Jd CH CK
                      go_wp2_with fail
                      go_roundw
                      case rel => exact ⟨j + 1, _, rfl, by have := HJ.out; omega, by go_num, J5⟩
                      case measure => have := HJ.out; simp [intOf]; omega
                · obtain rfl : j = m0 := by omega
                  go_wp2_with fail
                  go_roundw
                  case rel => exact ⟨k + 1, _, rfl, by have := HKM.out; omega, by go_num, JJ.b⟩
                  case measure => have := HKM.out; simp [intOf]; omega
            · skip
              have Jd : TS w x y A7 m7 c7 A8 m8 c8 g7 g8 lx ly V3.drew := JS.step ((Below.refl _ _).drew)
              refine region_class (S := TS w x y A7 m7 c7 A8 m8 c8 g7 g8 lx ly) (by kernel_rfl) (by kernel_rfl) Jd ?_
              iterate 2 go_big_quiet_step (rfl)
              refine class_load (by rfl) 24 (.tmp 7) rfl g7 rfl (pdC x.1 A7 m7 c7) 24 _ (fun _ h => h.k7) Try.underlying24 rfl (pd_inf _ _ _ _) ?_
              simp only [Act.put, List.setIfInBounds_toArray, List.set_cons_zero, List.set_cons_succ]
              go_big_quiet_step (first | (go_at_call 9; exact class_call _ CR.out))
              iterate 10 go_big_quiet_step (rfl)
              refine class_load (by rfl) 24 (.tmp 7) rfl g7 rfl (pdC x.1 A7 m7 c7) 24 _ (fun _ h => h.k7) Try.underlying24 rfl (pd_inf _ _ _ _) ?_
              simp only [Act.put, List.setIfInBounds_toArray, List.set_cons_zero, List.set_cons_succ]
              refine class_load (by rfl) 24 (.tmp 8) rfl g8 rfl (pdC y.1 A8 m8 c8) 24 _ (fun _ h => h.k8) Try.underlying24 rfl (pd_inf _ _ _ _) ?_
              simp only [Act.put, List.setIfInBounds_toArray, List.set_cons_zero, List.set_cons_succ]
              go_big_quiet_step (first | (go_at_call 17; exact class_call _ CP.out))
              refine class_load (by rfl) 24 (.tmp 7) rfl g7 rfl (pdC x.1 A7 m7 c7) 24 _ (fun _ h => h.k7) Try.underlying24 rfl (pd_inf _ _ _ _) ?_
              simp only [Act.put, List.setIfInBounds_toArray, List.set_cons_zero, List.set_cons_succ]
              refine class_load (by rfl) 24 (.tmp 8) rfl g8 rfl (pdC y.1 A8 m8 c8) 24 _ (fun _ h => h.k8) Try.underlying24 rfl (pd_inf _ _ _ _) ?_
              simp only [Act.put, List.setIfInBounds_toArray, List.set_cons_zero, List.set_cons_succ]
              go_big_quiet_step (first | (go_at_call 14; exact class_call _ CQ.out))
              repeat (go_big_quiet_step (rfl))
              refine wpQuiet_nil ?_
              rintro _ ⟨s4, rfl⟩
              have J4 := s4.h
              clear Jd CR CP CQ
              go_wp2_with fail
              go_loopw [55] (fun iv wr' => ∃ (j : Nat) (wr : World), wr = wr' ∧ j ≤ m0 ∧ iv = .int .i64 j ∧ TS w x y A7 m7 c7 A8 m8 c8 g7 g8 lx ly wr) (fun iv _ => m0 - (intOf iv).toNat)
              case atStart => exact ⟨0, _, rfl, Nat.zero_le _, rfl, J4⟩
              case round =>
                clear J4
                obtain ⟨j, wq, hwq, hj, rfl, JJ⟩ := hrel
                subst hwq
                by_cases hjt : j < m0
                · have hjt' : (j : Int) < (m0 : Int) := by omega
                  have hjl : j < os.length := by have := HM0.out; omega
                  obtain ⟨b1, off1, rfl, hb1, hc1⟩ := hA0.below JJ.b (Nat.le_refl _) j hjl
                  generalize os.getD j 0 = o at hc1
                  have HJ := Lib.hid hjt
                  clear hjl hjt
                  have Jd : TS w x y A7 m7 c7 A8 m8 c8 g7 g8 lx ly wq.drew := JJ.step ((Below.refl _ _).drew)
                  obtain ⟨bh, hbh⟩ : ∃ bh, lx.contains o = bh := ⟨_, rfl⟩
                  have CH := Lib.hid (calls_keep (S := TS w x y A7 m7 c7 A8 m8 c8 g7 g8 lx ly) (fun _ _ => TS.step) (fun V hV => has_pid x.1 A7 m7 c7 lx o V hV.z7.ri hV.z7.len hV.z7.cap (by have := hV.z7.len; have := HL7.out; omega)))
                  have CK := Lib.hid (calls_keep (S := TS w x y A7 m7 c7 A8 m8 c8 g7 g8 lx ly) (fun _ _ => TS.step) (fun V hV => rhas_pid x.1 A7 m7 c7 lx o V hV.z7.ri hV.z7.len (by have := hV.z7.len; have := HL7.out; omega)))
                  rw [hbh] at CH CK
                  unfold pdV at CH CK
                  clear hbh
                  cases h30 : decide ((j : Int) < 30)
                  · go_wp2_with fail
                    refine region_class (S := TS w x y A7 m7 c7 A8 m8 c8 g7 g8 lx ly) (by kernel_rfl) (by kernel_rfl) Jd ?_
                    repeat (go_big_quiet_step (rfl))
                    refine wpQuiet_nil ?_
                    rintro _ ⟨s5, rfl⟩
                    have J5 := s5.h
                    clear Jd CH CK
                    go_wp2_with fail
                    go_roundw
                    case rel => exact ⟨j + 1, _, rfl, by have := HJ.out; omega, by go_num, J5⟩
                    case measure => have := HJ.out; simp [intOf]; omega
                  · cases bh
                    all_goals
                      go_wp2_with fail
                      refine region_class (S := TS w x y A7 m7 c7 A8 m8 c8 g7 g8 lx ly) (by kernel_rfl) (by kernel_rfl) Jd ?_
                      iterate 3 go_big_quiet_step (rfl)
                      refine class_load (by rfl) 24 (.tmp 7) rfl g7 rfl (pdC x.1 A7 m7 c7) 24 _ (fun _ h => h.k7) Try.underlying24 rfl (pd_inf _ _ _ _) ?_
                      simp only [Act.put, List.setIfInBounds_toArray, List.set_cons_zero, List.set_cons_succ]
                      go_big_quiet_step (rfl)
                      go_big_quiet_step (first | (go_at_call 18; exact class_call _ CH.out))
                      refine class_load (by rfl) 24 (.tmp 7) rfl g7 rfl (pdC x.1 A7 m7 c7) 24 _ (fun _ h => h.k7) Try.underlying24 rfl (pd_inf _ _ _ _) ?_
                      simp only [Act.put, List.setIfInBounds_toArray, List.set_cons_zero, List.set_cons_succ]
                      go_big_quiet_step (rfl)
                      go_big_quiet_step (first | (go_at_call 19; exact class_call _ CK.out))
                      repeat (go_big_quiet_step (rfl))
                      refine wpQuiet_nil ?_
                      rintro _ ⟨s5, rfl⟩
                      have J5 := s5.h
                      clear Jd CH CK
                      go_wp2_with fail
                      go_roundw
                      case rel => exact ⟨j + 1, _, rfl, by have := HJ.out; omega, by go_num, J5⟩
                      case measure => have := HJ.out; simp [intOf]; omega
                · obtain rfl : j = m0 := by omega
                  go_wp2_with fail
                  go_roundw
                  case rel => exact ⟨k + 1, _, rfl, by have := HKM.out; omega, by go_num, JJ.b⟩
                  case measure => have := HKM.out; simp [intOf]; omega
          · rw [show ((200 : Int) == 0) = false from rfl] at CR
            cases bs
            · skip
              have Jd : TS w x y A7 m7 c7 A8 m8 c8 g7 g8 lx ly V3.drew := JS.step ((Below.refl _ _).drew)
              refine region_class (S := TS w x y A7 m7 c7 A8 m8 c8 g7 g8 lx ly) (by kernel_rfl) (by kernel_rfl) Jd ?_
              iterate 2 go_big_quiet_step (rfl)
              refine class_load (by rfl) 24 (.tmp 7) rfl g7 rfl (pdC x.1 A7 m7 c7) 24 _ (fun _ h => h.k7) Try.underlying24 rfl (pd_inf _ _ _ _) ?_
              simp only [Act.put, List.setIfInBounds_toArray, List.set_cons_zero, List.set_cons_succ]
              go_big_quiet_step (first | (go_at_call 9; exact class_call _ CR.out))
              iterate 10 go_big_quiet_step (rfl)
              refine class_load (by rfl) 24 (.tmp 7) rfl g7 rfl (pdC x.1 A7 m7 c7) 24 _ (fun _ h => h.k7) Try.underlying24 rfl (pd_inf _ _ _ _) ?_
              simp only [Act.put, List.setIfInBounds_toArray, List.set_cons_zero, List.set_cons_succ]
              refine class_load (by rfl) 24 (.tmp 8) rfl g8 rfl (pdC y.1 A8 m8 c8) 24 _ (fun _ h => h.k8) Try.underlying24 rfl (pd_inf _ _ _ _) ?_
              simp only [Act.put, List.setIfInBounds_toArray, List.set_cons_zero, List.set_cons_succ]
              go_big_quiet_step (first | (go_at_call 17; exact class_call _ CP.out))
              refine class_load (by rfl) 24 (.tmp 7) rfl g7 rfl (pdC x.1 A7 m7 c7) 24 _ (fun _ h => h.k7) Try.underlying24 rfl (pd_inf _ _ _ _) ?_
              simp only [Act.put, List.setIfInBounds_toArray, List.set_cons_zero, List.set_cons_succ]
              refine class_load (by rfl) 24 (.tmp 8) rfl g8 rfl (pdC y.1 A8 m8 c8) 24 _ (fun _ h => h.k8) Try.underlying24 rfl (pd_inf _ _ _ _) ?_
              simp only [Act.put, List.setIfInBounds_toArray, List.set_cons_zero, List.set_cons_succ]
              go_big_quiet_step (first | (go_at_call 14; exact class_call _ CQ.out))
              repeat (go_big_quiet_step (rfl))
              refine wpQuiet_nil ?_
              rintro _ ⟨s4, rfl⟩
              have J4 := s4.h
              clear Jd CR CP CQ
              go_wp2_with fail
              go_loopw [55] (fun iv wr' => ∃ (j : Nat) (wr : World), wr = wr' ∧ j ≤ m0 ∧ iv = .int .i64 j ∧ TS w x y A7 m7 c7 A8 m8 c8 g7 g8 lx ly wr) (fun iv _ => m0 - (intOf iv).toNat)
              case atStart => exact ⟨0, _, rfl, Nat.zero_le _, rfl, J4⟩
              case round =>
                clear J4
                obtain ⟨j, wq, hwq, hj, rfl, JJ⟩ := hrel
                subst hwq
                by_cases hjt : j < m0
                · have hjt' : (j : Int) < (m0 : Int) := by omega
                  have hjl : j < os.length := by have := HM0.out; omega
                  obtain ⟨b1, off1, rfl, hb1, hc1⟩ := hA0.below JJ.b (Nat.le_refl _) j hjl
                  generalize os.getD j 0 = o at hc1
                  have HJ := Lib.hid hjt
                  clear hjl hjt
                  have Jd : TS w x y A7 m7 c7 A8 m8 c8 g7 g8 lx ly wq.drew := JJ.step ((Below.refl _ _).drew)
                  obtain ⟨bh, hbh⟩ : ∃ bh, lx.contains o = bh := ⟨_, rfl⟩
                  have CH := Lib.hid (calls_keep (S := TS w x y A7 m7 c7 A8 m8 c8 g7 g8 lx ly) (fun _ _ => TS.step) (fun V hV => has_pid x.1 A7 m7 c7 lx o V hV.z7.ri hV.z7.len hV.z7.cap (by have := hV.z7.len; have := HL7.out; omega)))
                  have CK := Lib.hid (calls_keep (S := TS w x y A7 m7 c7 A8 m8 c8 g7 g8 lx ly) (fun _ _ => TS.step) (fun V hV => rhas_pid x.1 A7 m7 c7 lx o V hV.z7.ri hV.z7.len (by have := hV.z7.len; have := HL7.out; omega)))
                  rw [hbh] at CH CK
                  unfold pdV at CH CK
                  clear hbh
                  cases h30 : decide ((j : Int) < 30)
                  · go_wp2_with fail
                    refine region_class (S := TS w x y A7 m7 c7 A8 m8 c8 g7 g8 lx ly) (by kernel_rfl) (by kernel_rfl) Jd ?_
                    repeat (go_big_quiet_step (rfl))
                    refine wpQuiet_nil ?_
                    rintro _ ⟨s5, rfl⟩
                    have J5 := s5.h
                    clear Jd CH CK
                    go_wp2_with fail
                    go_roundw
                    case rel => exact ⟨j + 1, _, rfl, by have := HJ.out; omega, by go_num, J5⟩
                    case measure => have := HJ.out; simp [intOf]; omega
                  · cases bh
                    all_goals
                      go_wp2_with fail
                      refine region_class (S := TS w x y A7 m7 c7 A8 m8 c8 g7 g8 lx ly) (by kernel_rfl) (by kernel_rfl) Jd ?_
                      iterate 3 go_big_quiet_step (rfl)
                      refine class_load (by rfl) 24 (.tmp 7) rfl g7 rfl (pdC x.1 A7 m7 c7) 24 _ (fun _ h => h.k7) Try.underlying24 rfl (pd_inf _ _ _ _) ?_
                      simp only [Act.put, List.setIfInBounds_toArray, List.set_cons_zero, List.set_cons_succ]
                      go_big_quiet_step (rfl)
                      go_big_quiet_step (first | (go_at_call 18; exact class_call _ CH.out))
                      refine class_load (by rfl) 24 (.tmp 7) rfl g7 rfl (pdC x.1 A7 m7 c7) 24 _ (fun _ h => h.k7) Try.underlying24 rfl (pd_inf _ _ _ _) ?_
                      simp only [Act.put, List.setIfInBounds_toArray, List.set_cons_zero, List.set_cons_succ]
                      go_big_quiet_step (rfl)
                      go_big_quiet_step (first | (go_at_call 19; exact class_call _ CK.out))
                      repeat (go_big_quiet_step (rfl))
                      refine wpQuiet_nil ?_
                      rintro _ ⟨s5, rfl⟩
                      have J5 := s5.h
                      clear Jd CH CK
                      go_wp2_with fail
                      go_roundw
                      case rel => exact ⟨j + 1, _, rfl, by have := HJ.out; omega, by go_num, J5⟩
                      case measure => have := HJ.out; simp [intOf]; omega
                · obtain rfl : j = m0 := by omega
                  go_wp2_with fail
                  go_roundw
                  case rel => exact ⟨k + 1, _, rfl, by have := HKM.out; omega, by go_num, JJ.b⟩
                  case measure => have := HKM.out; simp [intOf]; omega
            · skip
              have Jd : TS w x y A7 m7 c7 A8 m8 c8 g7 g8 lx ly V3.drew := JS.step ((Below.refl _ _).drew)
              refine region_class (S := TS w x y A7 m7 c7 A8 m8 c8 g7 g8 lx ly) (by kernel_rfl) (by kernel_rfl) Jd ?_
              iterate 2 go_big_quiet_step (rfl)
              refine class_load (by rfl) 24 (.tmp 7) rfl g7 rfl (pdC x.1 A7 m7 c7) 24 _ (fun _ h => h.k7) Try.underlying24 rfl (pd_inf _ _ _ _) ?_
              simp only [Act.put, List.setIfInBounds_toArray, List.set_cons_zero, List.set_cons_succ]
              go_big_quiet_step (first | (go_at_call 9; exact class_call _ CR.out))
              iterate 10 go_big_quiet_step (rfl)
              refine class_load (by rfl) 24 (.tmp 7) rfl g7 rfl (pdC x.1 A7 m7 c7) 24 _ (fun _ h => h.k7) Try.underlying24 rfl (pd_inf _ _ _ _) ?_
              simp only [Act.put, List.setIfInBounds_toArray, List.set_cons_zero, List.set_cons_succ]
              refine class_load (by rfl) 24 (.tmp 8) rfl g8 rfl (pdC y.1 A8 m8 c8) 24 _ (fun _ h => h.k8) Try.underlying24 rfl (pd_inf _ _ _ _) ?_
              simp only [Act.put, List.setIfInBounds_toArray, List.set_cons_zero, List.set_cons_succ]
              go_big_quiet_step (first | (go_at_call 17; exact class_call _ CP.out))
              refine class_load (by rfl) 24 (.tmp 7) rfl g7 rfl (pdC x.1 A7 m7 c7) 24 _ (fun _ h => h.k7) Try.underlying24 rfl (pd_inf _ _ _ _) ?_
              simp only [Act.put, List.setIfInBounds_toArray, List.set_cons_zero, List.set_cons_succ]
              refine class_load (by rfl) 24 (.tmp 8) rfl g8 rfl (pdC y.1 A8 m8 c8) 24 _ (fun _ h => h.k8) Try.underlying24 rfl (pd_inf _ _ _ _) ?_
              simp only [Act.put, List.setIfInBounds_toArray, List.set_cons_zero, List.set_cons_succ]
              go_big_quiet_step (first | (go_at_call 14; exact class_call _ CQ.out))
              repeat (go_big_quiet_step (rfl))
              refine wpQuiet_nil ?_
              rintro _ ⟨s4, rfl⟩
              have J4 := s4.h
              clear Jd CR CP CQ
              go_wp2_with fail
              go_loopw [55] (fun iv wr' => ∃ (j : Nat) (wr : World), wr = wr' ∧ j ≤ m0 ∧ iv = .int .i64 j ∧ TS w x y A7 m7 c7 A8 m8 c8 g7 g8 lx ly wr) (fun iv _ => m0 - (intOf iv).toNat)
              case atStart => exact ⟨0, _, rfl, Nat.zero_le _, rfl, J4⟩
              case round =>
                clear J4
                obtain ⟨j, wq, hwq, hj, rfl, JJ⟩ := hrel
                subst hwq
                by_cases hjt : j < m0
                · have hjt' : (j : Int) < (m0 : Int) := by omega
                  have hjl : j < os.length := by have := HM0.out; omega
                  obtain ⟨b1, off1, rfl, hb1, hc1⟩ := hA0.below JJ.b (Nat.le_refl _) j hjl
                  generalize os.getD j 0 = o at hc1
                  have HJ := Lib.hid hjt
                  clear hjl hjt
                  have Jd : TS w x y A7 m7 c7 A8 m8 c8 g7 g8 lx ly wq.drew := JJ.step ((Below.refl _ _).drew)
                  obtain ⟨bh, hbh⟩ : ∃ bh, lx.contains o = bh := ⟨_, rfl⟩
                  have CH := Lib.hid (calls_keep (S := TS w x y A7 m7 c7 A8 m8 c8 g7 g8 lx ly) (fun _ _ => TS.step) (fun V hV => has_pid x.1 A7 m7 c7 lx o V hV.z7.ri hV.z7.len hV.z7.cap (by have := hV.z7.len; have := HL7.out; omega)))
                  have CK := Lib.hid (calls_keep (S := TS w x y A7 m7 c7 A8 m8 c8 g7 g8 lx ly) (fun _ _ => TS.step) (fun V hV => rhas_pid x.1 A7 m7 c7 lx o V hV.z7.ri hV.z7.len (by have := hV.z7.len; have := HL7.out; omega)))
                  rw [hbh] at CH CK
                  unfold pdV at CH CK
                  clear hbh
                  cases h30 : decide ((j : Int) < 30)
                  · go_wp2_with fail
                    refine region_class (S := TS w x y A7 m7 c7 A8 m8 c8 g7 g8 lx ly) (by kernel_rfl) (by kernel_rfl) Jd ?_
                    repeat (go_big_quiet_step (rfl))
                    refine wpQuiet_nil ?_
                    rintro _ ⟨s5, rfl⟩
                    have J5 := s5.h
                    clear Jd CH CK
                    go_wp2_with fail
                    go_roundw
                    case rel => exact ⟨j + 1, _, rfl, by have := HJ.out; omega, by go_num, J5⟩
                    case measure => have := HJ.out; simp [intOf]; omega
                  · cases bh
                    all_goals
                      go_wp2_with fail
                      refine region_class (S := TS w x y A7 m7 c7 A8 m8 c8 g7 g8 lx ly) (by kernel_rfl) (by kernel_rfl) Jd ?_
                      iterate 3 go_big_quiet_step (rfl)
                      refine class_load (by rfl) 24 (.tmp 7) rfl g7 rfl (pdC x.1 A7 m7 c7) 24 _ (fun _ h => h.k7) Try.underlying24 rfl (pd_inf _ _ _ _) ?_
                      simp only [Act.put, List.setIfInBounds_toArray, List.set_cons_zero, List.set_cons_succ]
                      go_big_quiet_step (rfl)
                      go_big_quiet_step (first | (go_at_call 18; exact class_call _ CH.out))
                      refine class_load (by rfl) 24 (.tmp 7) rfl g7 rfl (pdC x.1 A7 m7 c7) 24 _ (fun _ h => h.k7) Try.underlying24 rfl (pd_inf _ _ _ _) ?_
                      simp only [Act.put, List.setIfInBounds_toArray, List.set_cons_zero, List.set_cons_succ]
                      go_big_quiet_step (rfl)
                      go_big_quiet_step (first | (go_at_call 19; exact class_call _ CK.out))
                      repeat (go_big_quiet_step (rfl))
                      refine wpQuiet_nil ?_
                      rintro _ ⟨s5, rfl⟩
                      have J5 := s5.h
                      clear Jd CH CK
                      go_wp2_with fail
                      go_roundw
                      case rel => exact ⟨j + 1, _, rfl, by have := HJ.out; omega, by go_num, J5⟩
                      case measure => have := HJ.out; simp [intOf]; omega
                · obtain rfl : j = m0 := by omega
                  go_wp2_with fail
                  go_roundw
                  case rel => exact ⟨k + 1, _, rfl, by have := HKM.out; omega, by go_num, JJ.b⟩
                  case measure => have := HKM.out; simp [intOf]; omega
      · go_wp2_with (first
          | (refine wpList_load_mid rfl 24 (.tmp 19) rfl b (off + k * 2) rfl (pdC x.1 x.2.1 x.2.2.1 x.2.2.2.1).toList _ hcr Try.underlying24 rfl (pd_infL x) ?_)
          | (refine wpList_store_blk rfl 24 (.tmp 6) (.tmp 20) rfl wr.heap.size (pdC 0 none 0 0) (pdC x.1 x.2.1 x.2.2.1 x.2.2.2.1) 24 rfl rfl (Blk.new _ _ _) rfl (pd_inf _ _ _ _) (pd_one _ _ _ _) ?_
             intro W1 k6 n1
             have bb : Below wr.heap.size wr W1 := new_blk n1
             have hB1 := hB.trans (bb.mono hB.size)
             clear bb n1))
        go_ret
        exact ⟨rfl, hB1⟩
    · obtain rfl : k = m := by omega
      go_wp2_with fail
      go_ret
      exact ⟨rfl, hB⟩
end Go.Proofs.Ytjbhliabmaipbaa
