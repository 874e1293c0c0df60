/-
  pids.Free.
-/
import Derived.Test.YtjbhliabmaipbaaPiF
import Derived.Test.YtjbhliabmaipbaaGen
namespace Go.Proofs.Ytjbhliabmaipbaa
open Go.RowKit Go.Shelf
set_option linter.unusedVariables false
set_option linter.unusedSimpArgs false

theorem own_but {w w' : World} {g base m c : Nat} {A : Option Addr} {l : List Int} (h : Zo w base A m c l) (n : But g w w') (hg : some g ≠ (Value.slice A m c).ownBlock) : Zo w' base A m c l := by
  refine ⟨h.1, ?_⟩
  rcases h.2 with h0 | ⟨g', cap, cur, hv, hb, hh, r⟩
  · exact .inl h0
  · refine .inr ⟨g', cap, cur, hv, hb, ?_, r⟩
    have hlt := (Array.getElem?_eq_some_iff.1 hh).1
    have hne : g' ≠ g := by
      rintro rfl
      apply hg
      rw [hv]
      rfl
    exact (n.block g' hlt hne).trans hh
/-- What Free leaves. -/
def freeV (a : Int) (l : List Int) (x : Int) : Int × List Int × Int := if pidE a l = 0 then (if l.contains x then (a, delP l x, 0) else (0, [], 4)) else (0, [], 200)
def FS (w : World) (a : Int) (A : Option Addr) (m c : Nat) (V : World) : Prop := Below w.heap.size w V ∧ Blk V w.heap.size (pdC a A m c) 24
theorem FS.step {w V V' : World} {a : Int} {A : Option Addr} {m c : Nat} (h : FS w a A m c V) (hb : Below V.heap.size V V') (_h : Below V.heap.size V V') : FS w a A m c V' := ⟨h.1.trans (hb.mono h.1.size), h.2.below hb h.2.lt⟩
set_option maxRecDepth 100000 in
set_option maxHeartbeats 4000000 in
theorem free_pid (a : Int) (A : Option Addr) (m c : Nat) (l : List Int) (x : Int) (w : World) (hA : Ri7 w w.heap.size A l) (hm : m = l.length) (h6 : m ≤ 1000000) :
    Calls Try.prog 12 #[pdV a A m c, .int .i64 x] w fun e w' => ∃ A' m' c' a' l' er, e = .returned (.tuple #[pdV a' A' m' c', .int .i64 er]) ∧ Zo w' w.heap.size A' m' c' l' ∧ freeV a l x = (a', l', er) ∧ Below w.heap.size w w' := by
  have k1 := (Blk.new w (pdC a A m c) 24).alloc (.cells (pdC 0 none 0 0) 24)
  have k2 := Blk.new_ (w.alloc (.cells (pdC a A m c) 24)) (pdC 0 none 0 0) 24 (n := w.heap.size + 1) (by simp)
  have B0 := ((Below.refl w.heap.size w).alloc (Nat.le_refl _) (.cells (pdC a A m c) 24)).alloc (by simp) (.cells (pdC 0 none 0 0) 24)
  have CK := pcheck_pid a A m c l _ ((hA.below B0 (Nat.le_refl _)).more B0.size) hm h6
  obtain ⟨ck, hck⟩ : ∃ ck, pidE a l = ck := ⟨_, rfl⟩
  have hck2 := pidE_or a l
  rw [hck] at CK hck2
  have HM := Lib.hid hm
  have HC := Lib.hid hck
  clear hm hck
  unfold pdV at CK ⊢
  go_enter Try.func12, Try.ntmps12
  go_wp2_with (refine wpList_load_row rfl 24 (.tmp 2) rfl w.heap.size rfl 24 (pdC a A m c) (0, 0) _ k1.blk Try.underlying24 rfl (pd_inf a A m c) ?_)
  refine CK.mono ?_
  rintro e w1 ⟨rfl, bb⟩
  have k11 := k1.below bb k1.lt
  have k21 := k2.below bb k2.lt
  have b1 := B0.trans (bb.mono B0.size)
  clear CK k1 k2 B0 bb
  rcases hck2 with rfl | rfl
  · have hI : Ids a l := ids_iff.1 HC.out
    have hup := hI.up
    go_wp2_with (refine wpList_load_row rfl 24 (.tmp 2) rfl w.heap.size rfl 24 (pdC a A m c) (0, 0) _ k11.blk Try.underlying24 rfl (pd_inf a A m c) ?_)
    refine (place_pid a A m c l x _ ((hA.below b1 (Nat.le_refl _)).more b1.size) HM.out h6 hup).mono ?_
    rintro e w3 ⟨rfl, bb⟩
    have k13 := k11.below bb k11.lt
    have k23 := k21.below bb k21.lt
    have b3 := b1.trans (bb.mono b1.size)
    clear k11 k21 b1 bb
    obtain ⟨ct, hct⟩ : ∃ ct, l.contains x = ct := ⟨_, rfl⟩
    obtain ⟨k, hk⟩ : ∃ k, lessP l x = k := ⟨_, rfl⟩
    rw [hct, hk]
    have HCT := Lib.hid hct
    have HKE := Lib.hid hk
    clear hk
    cases ct
    · clear hct
      go_wp2_with (refine wpList_store_blk rfl 24 (.tmp 4) (.tmp 23) rfl (w.heap.size + 1) (pdC 0 none 0 0) (pdC 0 none 0 0) 24 rfl rfl k23 rfl (pd_inf _ _ _ _) (pd_one _ _ _ _) ?_; intro w5 h5 n5)
      refine bodyPost_ret (results_row_tmp rfl _ _ (w.heap.size + 1) 24 (pdC 0 none 0 0) (0, 0) _ rfl h5.blk Try.underlying24 rfl (pd_inf _ _ _ _) _ rfl) rfl ?_
      refine ⟨none, 0, 0, 0, [], 4, rfl, zo_nil _ _, ?_, b3.trans (n5.below _ (by omega) b3.size)⟩
      unfold freeV
      rw [if_pos HC.out, HCT.out]
      rfl
    · have HK : Hid (k < m) := Lib.hid (by rw [HM.out, ← HKE.out]; exact less_lt (by simpa using hct))
      clear hct
      have HS : FS w a A m c w3.drew := ⟨b3.drew, k13.drew⟩
      go_wp2_with fail
      refine region_cutP ?_
      refine wp_region_held_drew (S := FS w a A m c) (by kernel_rfl) HS (fun _ => ?_)
      refine wpAnyH_take (i := 0) (v := .pointer (some ⟨w.heap.size, 0, none⟩)) rfl (by kernel_rfl) (by kernel_rfl) (by kernel_rfl) (fun _ _ _ h => nomatch h.1) (.inl ⟨by rfl, fun V hV => by go_simp⟩) HS ?_
      try simp only [Act.put, List.getElem_toArray, List.getElem_cons_zero, List.getElem_cons_succ, List.setIfInBounds_toArray, List.set_cons_zero, List.set_cons_succ]
      refine wpAnyH_take (i := 1) (v := .int .i64 a) rfl (by kernel_rfl) (by kernel_rfl) (by kernel_rfl) (fun _ _ _ h => nomatch h.1) (.inl ⟨by rfl, fun V hV => by have c0 := hV.2.cell 0; simp only [pdC, List.getElem?_toArray, List.getElem?_cons_zero, List.getElem?_cons_succ] at c0; go_simp⟩) HS ?_
      try simp only [Act.put, List.getElem_toArray, List.getElem_cons_zero, List.getElem_cons_succ, List.setIfInBounds_toArray, List.set_cons_zero, List.set_cons_succ]
      refine wpAnyH_take (i := 2) (v := .pointer (some ⟨w.heap.size, 1, none⟩)) rfl (by kernel_rfl) (by kernel_rfl) (by kernel_rfl) (fun _ _ _ h => nomatch h.1) (.inl ⟨by rfl, fun V hV => by go_simp⟩) HS ?_
      try simp only [Act.put, List.getElem_toArray, List.getElem_cons_zero, List.getElem_cons_succ, List.setIfInBounds_toArray, List.set_cons_zero, List.set_cons_succ]
      refine wpAnyH_take (i := 3) (v := .slice A m c) rfl (by kernel_rfl) (by kernel_rfl) (by kernel_rfl) (fun _ _ _ h => nomatch h.1) (.inl ⟨by rfl, fun V hV => by have c0 := hV.2.cell 1; simp only [pdC, List.getElem?_toArray, List.getElem?_cons_zero, List.getElem?_cons_succ] at c0; go_simp⟩) HS ?_
      try simp only [Act.put, List.getElem_toArray, List.getElem_cons_zero, List.getElem_cons_succ, List.setIfInBounds_toArray, List.set_cons_zero, List.set_cons_succ]
      refine wpAnyH_take (i := 5) (v := .int .i64 k) rfl (by kernel_rfl) (by kernel_rfl) (by kernel_rfl) (fun _ _ _ h => nomatch h.1) (.inl ⟨by rfl, fun V hV => by go_simp⟩) HS ?_
      try simp only [Act.put, List.getElem_toArray, List.getElem_cons_zero, List.getElem_cons_succ, List.setIfInBounds_toArray, List.set_cons_zero, List.set_cons_succ]
      refine wpAnyH_take (i := 6) (v := .int .i64 k) rfl (by kernel_rfl) (by kernel_rfl) (by kernel_rfl) (fun _ _ _ h => nomatch h.1) (.inl ⟨by rfl, fun V hV => by go_simp⟩) HS ?_
      try simp only [Act.put, List.getElem_toArray, List.getElem_cons_zero, List.getElem_cons_succ, List.setIfInBounds_toArray, List.set_cons_zero, List.set_cons_succ]
      refine wpAnyH_take (i := 7) (v := .int .i64 ((k : Int) + 1)) rfl (by kernel_rfl) (by kernel_rfl) (by kernel_rfl) (fun _ _ _ h => nomatch h.1) (.inl ⟨by rfl, fun V hV => by have hw : IntKind.i64.wrap ((k : Int) + 1) = (k : Int) + 1 := (by rw [IntKind.wrap_i64]; have := HK.out; omega); go_simp⟩) HS ?_
      try simp only [Act.put, List.getElem_toArray, List.getElem_cons_zero, List.getElem_cons_succ, List.setIfInBounds_toArray, List.set_cons_zero, List.set_cons_succ]
      refine wpAnyH_ready (rs := [4]) (by kernel_rfl) (by simp) ?_
      refine AllReadyH.cons rfl (fun K hK => ?_) AllReadyH.nil
      try simp only [Act.put, List.getElem_toArray, List.getElem_cons_zero, List.getElem_cons_succ, List.setIfInBounds_toArray, List.set_cons_zero, List.set_cons_succ]
      go_simp
      refine (zclone_any A m c l _ ((hA.below HS.1 (Nat.le_refl _)).more HS.1.size) HM.out h6).mono ?_
      rintro e V1 ⟨A1, c1, rfl, z1, bb⟩
      go_wp2_with fail
      have J1 := HS.step (bb.mono (Nat.le_refl _)) bb
      have z1' := z1.down (b := w3.heap.size) (Nat.le_refl _)
      have k31 := k23.drew.below bb k23.lt
      have hs1 : w3.heap.size ≤ V1.heap.size := bb.size
      clear z1 bb
      refine hK.out _ _ J1 (fun _ => ?_)
      clear hK K
      try simp only [Act.put, List.getElem_toArray, List.getElem_cons_zero, List.getElem_cons_succ, List.setIfInBounds_toArray, List.set_cons_zero, List.set_cons_succ]
      refine wpAnyH_ready (rs := [8]) (by kernel_rfl) (by simp) ?_
      refine AllReadyH.cons rfl (fun K hK => ?_) AllReadyH.nil
      try simp only [Act.put, List.getElem_toArray, List.getElem_cons_zero, List.getElem_cons_succ, List.setIfInBounds_toArray, List.set_cons_zero, List.set_cons_succ]
      go_simp
      refine (delete_any A1 m c1 l k w3.heap.size V1 z1' HK.out).mono ?_
      rintro e V2 ⟨A2, rfl, z2, bb⟩
      go_wp2_with fail
      have J2 : FS w a A m c V2 := ⟨J1.1.trans (bb.mono (by have := HS.1.size; exact this)), J1.2.below bb HS.2.lt⟩
      have k32 := k31.below bb k23.lt
      have hs2 : w3.heap.size ≤ V2.heap.size := Nat.le_trans hs1 bb.size
      clear bb z1' J1 k31
      refine hK.out _ _ J2 (fun _ => ?_)
      clear hK K
      try simp only [Act.put, List.getElem_toArray, List.getElem_cons_zero, List.getElem_cons_succ, List.setIfInBounds_toArray, List.set_cons_zero, List.set_cons_succ]
      refine wpAnyH_take (i := 9) (v := .agg (pdC a A2 (m - 1) c1)) rfl (by kernel_rfl) (by kernel_rfl) (by kernel_rfl) (fun _ _ _ h => nomatch h.1) (.inl ⟨by rfl, fun V hV => by unfold pdC; go_simp⟩) J2 ?_
      try simp only [Act.put, List.getElem_toArray, List.getElem_cons_zero, List.getElem_cons_succ, List.setIfInBounds_toArray, List.set_cons_zero, List.set_cons_succ]
      refine wpAnyH_ready (rs := [10]) (by kernel_rfl) (by simp) ?_
      refine AllReadyH.cons rfl (fun K hK => ?_) AllReadyH.nil
      try simp only [Act.put, List.getElem_toArray, List.getElem_cons_zero, List.getElem_cons_succ, List.setIfInBounds_toArray, List.set_cons_zero, List.set_cons_succ]
      rw [if_pos (by rfl)]
      refine wp_store_blk 24 (.tmp 4) (.tmp 33) rfl (w.heap.size + 1) (pdC 0 none 0 0) (pdC a A2 (m - 1) c1) 24 rfl rfl k32 rfl (pd_inf _ _ _ _) (pd_one _ _ _ _) ?_
      intro V3 h3 n3
      have J3 : FS w a A m c V3 := ⟨J2.1.trans (n3.below w.heap.size (by omega) J2.1.size), n3.blk7 J2.2 (by omega)⟩
      have z3 : Zo V3 w.heap.size A2 (m - 1) c1 (l.take k ++ l.drop (k + 1)) := own_but (z2.down HS.1.size) n3 (fun e => by have := z2.lt _ e.symm; have := k23.lt; omega)
      refine hK.out _ _ J3 (fun _ => ?_)
      clear hK K
      try simp only [Act.put, List.getElem_toArray, List.getElem_cons_zero, List.getElem_cons_succ, List.setIfInBounds_toArray, List.set_cons_zero, List.set_cons_succ]
      refine wpAnyH_ready (rs := [11]) (by kernel_rfl) (by simp) ?_
      refine AllReadyH.cons rfl (fun K hK => ?_) AllReadyH.nil
      try simp only [Act.put, List.getElem_toArray, List.getElem_cons_zero, List.getElem_cons_succ, List.setIfInBounds_toArray, List.set_cons_zero, List.set_cons_succ]
      go_simp
      refine hK.out _ _ J3 (fun _ => ?_)
      clear hK K
      try simp only [Act.put, List.getElem_toArray, List.getElem_cons_zero, List.getElem_cons_succ, List.setIfInBounds_toArray, List.set_cons_zero, List.set_cons_succ]
      refine wpAnyH_done (by kernel_rfl) ?_ _
      refine ⟨rfl, ?_⟩
      go_wp2_with fail
      refine bodyPost_ret (results_row_tmp rfl _ _ (w.heap.size + 1) 24 (pdC a A2 (m - 1) c1) (0, 0) _ rfl h3.blk Try.underlying24 rfl (pd_inf _ _ _ _) _ rfl) rfl ?_
      refine ⟨A2, m - 1, c1, a, delP l x, 0, rfl, by unfold delP; rw [HKE.out]; exact z3, ?_, J3.1⟩
      unfold freeV
      rw [if_pos HC.out, HCT.out]
      rfl
  · go_wp2_with (refine wpList_store_blk rfl 24 (.tmp 4) (.tmp 13) rfl (w.heap.size + 1) (pdC 0 none 0 0) (pdC 0 none 0 0) 24 rfl rfl k21 rfl (pd_inf _ _ _ _) (pd_one _ _ _ _) ?_; intro w5 h5 n5)
    refine bodyPost_ret (results_row_tmp rfl _ _ (w.heap.size + 1) 24 (pdC 0 none 0 0) (0, 0) _ rfl h5.blk Try.underlying24 rfl (pd_inf _ _ _ _) _ rfl) rfl ?_
    refine ⟨none, 0, 0, 0, [], 200, rfl, zo_nil _ _, ?_, b1.trans (n5.below _ (by omega) b1.size)⟩
    unfold freeV
    rw [if_neg (by rw [HC.out]; decide)]
end Go.Proofs.Ytjbhliabmaipbaa
