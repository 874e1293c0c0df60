/-
  pids.Take.
-/
import Derived.Test.YtlelhhgggnjndaaGreatQPiT
import Derived.Test.YtlelhhgggnjndaaGreatQPiSh
import Derived.RangeFuncNested
namespace Go.Proofs.YtlelhhgggnjndaaGreat
open Go.RowKit Go.Shelf
attribute [local go_sem] Oper.semAt_some
set_option linter.unusedVariables false
set_option linter.unusedSimpArgs false
def takeV (a : Int) (l : List Int) : Int × List Int × Int × Int :=
  if pidE a l = 0 then (match nextP a.toNat l with | some i => (((cand a.toNat i : Nat) : Int), insP l ((cand a.toNat i : Nat) : Int), ((cand a.toNat i : Nat) : Int), 0) | none => (0, [], 0, 24)) else (0, [], 0, 200)
theorem no_load (w : World) (g : Nat) (x : Int) (t : TypeId) (h : Blk w g #[.int .i64 x] t) : (loadVar 34 ⟨g, 0, none⟩).run Tryz.prog w = .ok (.int .i64 x) w := by
  have hc := h.cell 0
  simp only [List.getElem?_toArray, List.getElem?_cons_zero] at hc
  have hu := run_underlying Tryz.underlying34
  simp [go_sem, hu, hc]
set_option maxRecDepth 100000 in
set_option maxHeartbeats 4000000 in
theorem take_no (a : Int) (A : Option Addr) (m c : Nat) (l : List Int) (w : World) (hA : Ri7 w w.heap.size A l) (hm : m = l.length) (h6 : m ≤ 1000000) (hn : pidE a l = 200) :
    Calls Tryz.prog 90 #[pdV a A m c] w fun e w' => e = .returned (.tuple #[pdV 0 none 0 0, .int .i64 0, .int .i64 200]) ∧ Below w.heap.size w w' := by
  have k1 := (((Blk.new w (pdC a A m c) 24).alloc (.cells (pdC 0 none 0 0) 24)).alloc (.cells #[.int .i64 0] 3)).alloc (.cells #[.int .i64 0] 34)
  have k2 := ((Blk.new_ (w.alloc (.cells (pdC a A m c) 24)) (pdC 0 none 0 0) 24 (n := w.heap.size + 1) (by simp)).alloc (.cells #[.int .i64 0] 3)).alloc (.cells #[.int .i64 0] 34)
  have k3 := (Blk.new_ ((w.alloc (.cells (pdC a A m c) 24)).alloc (.cells (pdC 0 none 0 0) 24)) #[.int .i64 0] 3 (n := w.heap.size + 1 + 1) (by simp)).alloc (.cells #[.int .i64 0] 34)
  have k4 := Blk.new_ (((w.alloc (.cells (pdC a A m c) 24)).alloc (.cells (pdC 0 none 0 0) 24)).alloc (.cells #[.int .i64 0] 3)) #[.int .i64 0] 34 (n := w.heap.size + 1 + 1 + 1) (by simp)
  have B0 := ((((Below.refl w.heap.size w).alloc (Nat.le_refl _) (.cells (pdC a A m c) 24)).alloc (by simp) (.cells (pdC 0 none 0 0) 24)).alloc (by simp; omega) (.cells #[.int .i64 0] 3)).alloc (by simp; omega) (.cells #[.int .i64 0] 34)
  have CK := pcheck_pid a A m c l _ ((hA.below B0 (Nat.le_refl _)).more B0.size) hm h6
  rw [hn] at CK
  have HM := Lib.hid hm
  clear hm hn
  unfold pdV at CK ⊢
  go_enter Tryz.func90, Tryz.ntmps90
  go_wp2_with (refine wpList_load_row rfl 24 (.tmp 1) rfl w.heap.size rfl 24 (pdC a A m c) (0, 0) _ k1.blk Tryz.underlying24 rfl (pd_inf a A m c) ?_)
  refine CK.mono ?_
  rintro e w1 ⟨rfl, bb⟩
  have k21 := k2.below bb k2.lt
  have k31 := k3.below bb k3.lt
  have k41 := k4.below bb k4.lt
  have b1 := B0.trans (bb.mono B0.size)
  clear CK k1 k2 k3 k4 B0 bb
  go_wp2_with (refine wpList_store_blk rfl 24 (.tmp 2) (.tmp 13) rfl (w.heap.size + 1) (pdC 0 none 0 0) (pdC 0 none 0 0) 24 rfl rfl k21 rfl (pd_inf _ _ _ _) (pd_one _ _ _ _) ?_; intro w5 h5 n5; have q3 := (n5.blk7 k31 (by omega)).cell 0; have f3 := (n5.blk7 k31 (by omega)).frozen 0; have q4 := (n5.blk7 k41 (by omega)).cell 0; have f4 := (n5.blk7 k41 (by omega)).frozen 0; simp only [List.getElem?_toArray, List.getElem?_cons_zero] at q3 q4)
  have e2 := ((h5.far (p := ⟨w.heap.size + 1 + 1, 0, none⟩) (by simp) (.int .i64 0)).far (p := ⟨w.heap.size + 1 + 1 + 1, 0, none⟩) (by simp) (.int .i64 200))
  have e3 := ((n5.blk7 k31 (by omega)).set_ 0 (.int .i64 0)).far (p := ⟨w.heap.size + 1 + 1 + 1, 0, none⟩) (by simp) (.int .i64 200)
  have e4 := ((n5.blk7 k41 (by omega)).far (p := ⟨w.heap.size + 1 + 1, 0, none⟩) (by simp) (.int .i64 0)).set_ 0 (.int .i64 200)
  have b5 := ((b1.trans (n5.below _ (by omega) b1.size)).setCell (p := ⟨w.heap.size + 1 + 1, 0, none⟩) (by simp; omega) (.int .i64 0)).setCell (p := ⟨w.heap.size + 1 + 1 + 1, 0, none⟩) (by simp; omega) (.int .i64 200)
  refine bodyPost_ret (results_cells3 rfl _ _ (w.heap.size + 1) (w.heap.size + 1 + 1) (w.heap.size + 1 + 1 + 1) 24 (pdC 0 none 0 0) _ _ _ rfl rfl rfl e2 Tryz.underlying24 rfl (pd_inf _ _ _ _) (int_load _ _ _ _ e3) (no_load _ _ _ _ e4)) rfl ⟨rfl, b5⟩
def tkI (w2 : World) (an : Nat) (l : List Int) (pre : List (Fin 20)) (W : World) : Prop := (∀ x ∈ pre, (!l.contains ((cand an x.val : Nat) : Int)) = false) ∧ Below w2.heap.size w2 W
def tkX (w : World) (an : Nat) (l : List Int) (cd : Code) (pre : List (Fin 20)) (W : World) : Prop :=
  (cd = .ret ∧ ∃ ini x, pre = ini ++ [x] ∧ (∀ y ∈ ini, (!l.contains ((cand an y.val : Nat) : Int)) = false) ∧ (!l.contains ((cand an x.val : Nat) : Int)) = true ∧
    ∃ A' m' c', Blk W (w.heap.size + 1) (pdC ((cand an x.val : Nat) : Int) A' m' c') 24 ∧ Blk W (w.heap.size + 1 + 1) #[.int .i64 ((cand an x.val : Nat) : Int)] 3 ∧ Blk W (w.heap.size + 1 + 1 + 1) #[.int .i64 0] 34 ∧ Zo W w.heap.size A' m' c' (insP l ((cand an x.val : Nat) : Int))) ∧ Below w.heap.size w W
set_option maxRecDepth 100000 in
set_option maxHeartbeats 8000000 in
theorem take_in (a : Int) (A : Option Addr) (m c : Nat) (l : List Int) (w : World) (hA : Ri7 w w.heap.size A l) (hm : m = l.length) (h6 : m ≤ 1000000) (hI : Ids a l) :
    CallsIn Fence.wide 6 Tryz.prog 90 #[pdV a A m c] w fun e w' => ∃ A' m' c' a' l' id er, e = .returned (.tuple #[pdV a' A' m' c', .int .i64 id, .int .i64 er]) ∧ Zo w' w.heap.size A' m' c' l' ∧ takeV a l = (a', l', id, er) ∧ Below w.heap.size w w' := by
  have k1 := (((Blk.new w (pdC a A m c) 24).alloc (.cells (pdC 0 none 0 0) 24)).alloc (.cells #[.int .i64 0] 3)).alloc (.cells #[.int .i64 0] 34)
  have k2 := ((Blk.new_ (w.alloc (.cells (pdC a A m c) 24)) (pdC 0 none 0 0) 24 (n := w.heap.size + 1) (by simp)).alloc (.cells #[.int .i64 0] 3)).alloc (.cells #[.int .i64 0] 34)
  have k3 := (Blk.new_ ((w.alloc (.cells (pdC a A m c) 24)).alloc (.cells (pdC 0 none 0 0) 24)) #[.int .i64 0] 3 (n := w.heap.size + 1 + 1) (by simp)).alloc (.cells #[.int .i64 0] 34)
  have k4 := Blk.new_ (((w.alloc (.cells (pdC a A m c) 24)).alloc (.cells (pdC 0 none 0 0) 24)).alloc (.cells #[.int .i64 0] 3)) #[.int .i64 0] 34 (n := w.heap.size + 1 + 1 + 1) (by simp)
  have B0 := ((((Below.refl w.heap.size w).alloc (Nat.le_refl _) (.cells (pdC a A m c) 24)).alloc (by simp) (.cells (pdC 0 none 0 0) 24)).alloc (by simp; omega) (.cells #[.int .i64 0] 3)).alloc (by simp; omega) (.cells #[.int .i64 0] 34)
  have CK := pcheck_pid a A m c l _ ((hA.below B0 (Nat.le_refl _)).more B0.size) hm h6
  have h0 : pidE a l = 0 := ids_iff.2 hI
  rw [h0] at CK
  have HM := Lib.hid hm
  have H0 := Lib.hid h0
  clear hm h0
  unfold pdV at CK ⊢
  refine callsIn_of_wp_marks Tryz.func90 rfl trivial ?_ rfl
  simp only [Tryz.ntmps90, List.size_toArray, List.length_cons, List.length_nil, Nat.reduceAdd, Nat.reduceSub, Array.replicate_succ, Array.replicate_zero, List.push_toArray, List.append_toArray, List.nil_append, List.cons_append]
  refine wpIn_wide.2 ?_
  go_wp2_with (refine wpList_load_row rfl 24 (.tmp 1) rfl w.heap.size rfl 24 (pdC a A m c) (0, 0) _ k1.blk Tryz.underlying24 rfl (pd_inf a A m c) ?_)
  refine CK.mono ?_
  rintro e w1 ⟨rfl, bb⟩
  have k11 := k1.below bb k1.lt
  have k21 := k2.below bb k2.lt
  have k31 := k3.below bb k3.lt
  have k41 := k4.below bb k4.lt
  have b1 := B0.trans (bb.mono B0.size)
  clear CK k1 k2 k3 k4 B0 bb
  have q0 : w1.cell? ⟨w.heap.size, 0, none⟩ = some (.int .i64 a) := k11.cell 0
  go_wp2_with fail
  refine (cands_any a w1).mono ?_
  rintro e w2 ⟨g, rfl, hg, hgl, bb⟩
  have k12 := k11.below bb k11.lt
  have k22 := k21.below bb k21.lt
  have k32 := k31.below bb k31.lt
  have k42 := k41.below bb k41.lt
  have b2 := b1.trans (bb.mono b1.size)
  clear k11 k21 k31 k41 b1 bb q0
  go_wp2_with fail
  refine (wpIn_wide (n := 6)).1 ?_
  have ha0 := hI.a0
  have ha1 := hI.a1
  obtain ⟨an, rfl⟩ : ∃ an : Nat, a = (an : Int) := ⟨a.toNat, by omega⟩
  have htn : ((an : Nat) : Int).toNat = an := by omega
  refine wpIn_rangeFunc_ownG rfl (by omega) (gf := 130) (lb := #[.pointer (some ⟨g, 0, none⟩)]) rfl trivial (enters_of Tryz.func130 (by kernel_rfl) rfl) (cands_seq 5 (by omega) w2.heap.size g an (by omega) w2 hg hg.lt (Nat.le_refl _)) belowK_t (belowK_b (Nat.le_refl _)) (Below.refl _ _) (fun _ => rfl)
    (tkI w2 an l) (tkX w an l) ?hI ?hIx ⟨by simp, Below.refl _ _⟩
    (fun x => { tmps := #[.agg (pdC an A m c), .pointer (some ⟨w.heap.size, 0, none⟩), .pointer (some ⟨w.heap.size + 1, 0, none⟩), .pointer (some ⟨w.heap.size + 1 + 1, 0, none⟩), .pointer (some ⟨w.heap.size + 1 + 1 + 1, 0, none⟩), .int .i64 0, .int .i64 ((cand an x.val : Nat) : Int), undef, undef, .agg (pdC an A m c), .int .i64 0, .int .i64 0, .bool false, undef, undef, .pointer (some ⟨w.heap.size, 0, none⟩), .int .i64 an, .func (.func 130) #[] #[.pointer (some ⟨g, 0, none⟩)], .int .i64 ((cand an x.val : Nat) : Int), undef, undef, undef, undef, undef, undef, undef, undef, undef, undef, undef, undef, undef, undef, undef, undef, undef, undef, undef], defers := [] })
    ?assign ?body ?done ?stop
  case hI => exact OwnFrom.and (Own.from (fun s A B row hs hg hr => hs) _) (ownFrom_below (Nat.le_refl _) (Nat.le_refl _))
  case hIx => exact fun cd => OwnFrom.and (Own.from (fun s A B row hs hg hr => by obtain ⟨hc, ini, x, e1, e2, e3, A', m', c', e4, e5, e6, e7⟩ := hs; exact ⟨hc, ini, x, e1, e2, e3, A', m', c', blk_own e4 hg hr, blk_own e5 hg hr, blk_own e6 hg hr, zo_own e7 hg hr⟩) _) (ownFrom_below (Nat.le_refl _) b2.size)
  case assign =>
    intro l x W K hK
    gi_wp2
    exact hK
  case body =>
    rintro lp pre x W ⟨hp, hW2⟩ _
    have c1 := k12.below hW2 k12.lt
    have c2 := k22.below hW2 k22.lt
    have c3 := k32.below hW2 k32.lt
    have c4 := k42.below hW2 k42.lt
    have hB := b2.trans (hW2.mono b2.size)
    have hc := CallsIn.inRound lp (callsIn_wide (n := 3) |>.2 (place_pid an A m c l ((cand an x.val : Nat) : Int) W ((hA.below hB (Nat.le_refl _)).more hB.size) HM.out h6 hI.up))
    obtain ⟨ct, hct⟩ : ∃ ct, l.contains ((cand an x.val : Nat) : Int) = ct := ⟨_, rfl⟩
    obtain ⟨k, hk⟩ : ∃ k, lessP l ((cand an x.val : Nat) : Int) = k := ⟨_, rfl⟩
    have hk9 := lessP_le l ((cand an x.val : Nat) : Int)
    rw [hct, hk] at hc
    rw [hk] at hk9
    have HCT := Lib.hid hct
    have HKE := Lib.hid hk
    have HKL := Lib.hid hk9
    have HP := Lib.hid hp
    clear hct hk hk9 hp
    generalize hcv : ((cand an x.val : Nat) : Int) = cv at hc ⊢
    have HCV := Lib.hid hcv
    clear hcv
    unfold pdV at hc
    cases ct
    · gi_wp2_with (refine wpListIn_load_row rfl 24 (.tmp 1) rfl w.heap.size rfl 24 (pdC an A m c) (0, 0) _ c1.blk Tryz.underlying24 rfl (pd_inf an A m c) ?_)
      refine ⟨trivial, hc.mono ?_⟩
      rintro e V1 ⟨rfl, bb⟩
      have d1 := c1.below bb c1.lt
      have d2 := c2.below bb c2.lt
      have d3 := c3.below bb c3.lt
      have d4 := c4.below bb c4.lt
      have hB1 := hB.trans (bb.mono hB.size)
      have q1 : V1.cell? ⟨w.heap.size, 1, none⟩ = some (.slice A m c) := d1.cell 1
      have kk : Below W.heap.size W V1 := bb
      clear hc bb
      gi_wp2
      have hc2 := CallsIn.inRound lp (callsIn_wide (n := 3) |>.2 (zclone_any A m c l V1 ((hA.below hB1 (Nat.le_refl _)).more hB1.size) HM.out h6))
      refine ⟨trivial, hc2.mono ?_⟩
      rintro e V2 ⟨A1, r1, rfl, z1, bb⟩
      have d12 := d1.below bb d1.lt
      have d22 := d2.below bb d2.lt
      have d32 := d3.below bb d3.lt
      have d42 := d4.below bb d4.lt
      have hB2 := hB1.trans (bb.mono hB1.size)
      have kk2 := kk.trans (bb.mono kk.size)
      have hs1 : w.heap.size + 1 + 1 + 1 < V1.heap.size := d4.lt
      have hs2 : V1.heap.size ≤ V2.heap.size := bb.size
      clear hc2 bb d1 d2 d3 d4 q1
      gi_wp2
      have ba : Below V2.heap.size V2 (V2.alloc (.cells #[.int .i64 cv] 3)) := (Below.refl _ _).alloc (Nat.le_refl _) _
      have hnb := heap_alloc_new V2 (.cells #[.int .i64 cv] 3)
      have z1a := z1.below ba (Nat.le_refl _)
      have hne : A1 ≠ some ⟨V2.heap.size, 0, none⟩ := fun e => by
        have := (z1.lt V2.heap.size (by rw [e]; rfl)).2
        omega
      have d13 := d12.below ba d12.lt
      have d23 := d22.below ba d22.lt
      have d33 := d32.below ba d32.lt
      have d43 := d42.below ba d42.lt
      have hB3 := hB2.trans (ba.mono hB2.size)
      have kk3 := kk2.trans (ba.mono kk2.size)
      have hsW : W.heap.size ≤ V1.heap.size := kk.size
      have hs3 : V2.heap.size ≤ (V2.alloc (.cells #[.int .i64 cv] 3)).heap.size := ba.size
      have hc3 := CallsIn.inRound lp (callsIn_wide (n := 3) |>.2 (insert_any A1 m r1 l k V1.heap.size V2.heap.size cv (V2.alloc (.cells #[.int .i64 cv] 3)) z1a (by rw [HM.out]; exact HKL.out) h6 (by omega) hnb hne))
      generalize V2.alloc (.cells #[.int .i64 cv] 3) = V3 at hc3 d13 d23 d33 d43 hB3 kk3 hs3 ⊢
      clear z1a hnb ba d12 d22 d32 d42 hB2 kk2
      refine ⟨trivial, hc3.mono ?_⟩
      rintro e V4 ⟨A2, r2, rfl, z2, bb⟩
      have d24 := d23.below bb (by omega)
      have d34 := d33.below bb (by omega)
      have d44 := d43.below bb (by omega)
      have hB4 := hB3.trans (bb.mono (by omega))
      have kk4 : Below W.heap.size W V4 := kk3.trans (bb.mono hsW)
      clear hc3 d13 d23 d33 d43 hB3 kk3 z1 hB1
      gi_wp2_with (refine wpListIn_store_blk rfl 24 (.tmp 2) (.tmp 35) rfl (w.heap.size + 1) (pdC 0 none 0 0) (pdC cv A2 (m + 1) r2) 24 rfl rfl d24 rfl (pd_inf _ _ _ _) (pd_one _ _ _ _) ?_
                   intro V5 h5 n5
                   have q3 := (n5.blk7 d34 (by omega)).cell 0
                   have f3 := (n5.blk7 d34 (by omega)).frozen 0
                   have q4 := (n5.blk7 d44 (by omega)).cell 0
                   have f4 := (n5.blk7 d44 (by omega)).frozen 0
                   simp only [List.getElem?_toArray, List.getElem?_cons_zero] at q3 q4)
      have e2 := ((h5.far (p := ⟨w.heap.size + 1 + 1, 0, none⟩) (by simp) (.int .i64 cv)).far (p := ⟨w.heap.size + 1 + 1 + 1, 0, none⟩) (by simp) (.int .i64 0))
      have e3 := ((n5.blk7 d34 (by omega)).set_ 0 (.int .i64 cv)).far (p := ⟨w.heap.size + 1 + 1 + 1, 0, none⟩) (by simp) (.int .i64 0)
      have e4 := ((n5.blk7 d44 (by omega)).far (p := ⟨w.heap.size + 1 + 1, 0, none⟩) (by simp) (.int .i64 cv)).set_ 0 (.int .i64 0)
      have b6 := ((hB4.trans (n5.below _ (by omega) hB4.size)).setCell (p := ⟨w.heap.size + 1 + 1, 0, none⟩) (by simp; omega) (.int .i64 cv)).setCell (p := ⟨w.heap.size + 1 + 1 + 1, 0, none⟩) (by simp; omega) (.int .i64 0)
      have hw2 : w.heap.size + 1 + 1 + 1 < w2.heap.size := k42.lt
      have kk6 : KeepsFrom w2.heap.size W ((V5.setCell ⟨w.heap.size + 1 + 1, 0, none⟩ (.int .i64 cv)).setCell ⟨w.heap.size + 1 + 1 + 1, 0, none⟩ (.int .i64 0)) := by
        refine ((keeps_below kk4).from _).trans (⟨n5.size, fun k o hk ho _ => (n5.block k (Array.getElem?_eq_some_iff.1 ho).1 (by omega)).trans ho⟩ |> fun h => KeepsFrom.trans h (KeepsFrom.trans ((KeepsOthers.setCell V5 _ _).from _) ((KeepsOthers.setCell _ _ _).from _)))
      have z5 : Zo V5 V1.heap.size A2 (m + 1) r2 (l.take k ++ cv :: l.drop k) := own_but z2 n5 (fun e => by have := z2.lt _ e.symm; omega)
      have z6 := zo_far (zo_far z5 (p := ⟨w.heap.size + 1 + 1, 0, none⟩) (by simp; omega) (.int .i64 cv)) (p := ⟨w.heap.size + 1 + 1 + 1, 0, none⟩) (by simp; omega) (.int .i64 0)
      refine ⟨kk6, ⟨rfl, pre, x, rfl, HP.out, ?_, A2, m + 1, r2, ?_, ?_, e4, ?_⟩, b6⟩
      · rw [HCT.out]; rfl
      · rw [HCV.out]; exact e2
      · rw [HCV.out]; exact e3
      · rw [HCV.out]
        unfold insP
        rw [← HCV.out, HKE.out, HCV.out]
        exact z6.down (by omega)
    · gi_wp2_with (refine wpListIn_load_row rfl 24 (.tmp 1) rfl w.heap.size rfl 24 (pdC an A m c) (0, 0) _ c1.blk Tryz.underlying24 rfl (pd_inf an A m c) ?_)
      refine ⟨trivial, hc.mono ?_⟩
      rintro e V1 ⟨rfl, bb⟩
      gi_wp2
      refine ⟨(keeps_below bb).from _, bb.mono hW2.size, fun y hy => ?_, hW2.trans (bb.mono hW2.size)⟩
      rcases List.mem_append.1 hy with h | h
      · exact HP.out y h
      · simp at h; subst h; rw [HCT.out]; rfl
  case done =>
    rintro D xs W hD hS ⟨hp, hW2⟩ hK
    have c2 := k22.below hW2 k22.lt
    have c3 := k32.below hW2 k32.lt
    have c4 := k42.below hW2 k42.lt
    have hB := b2.trans (hW2.mono b2.size)
    have hfn : nextP an l = none := find_none7 (fun x : Fin 20 => x.val) (fun i => !l.contains ((cand an i : Nat) : Int)) hS hp
    have HFN := Lib.hid hfn
    clear hfn
    have hDW : D < W.heap.size := (Array.getElem?_eq_some_iff.1 hK).1
    have hw2 : w.heap.size + 1 + 1 + 1 < w2.heap.size := k42.lt
    go_wp2_with (refine wpList_store_blk rfl 24 (.tmp 2) (.tmp 37) rfl (w.heap.size + 1) (pdC 0 none 0 0) (pdC 0 none 0 0) 24 rfl rfl c2 rfl (pd_inf _ _ _ _) (pd_one _ _ _ _) ?_
                 intro V5 h5 n5
                 have q3 := (n5.blk7 c3 (by omega)).cell 0
                 have f3 := (n5.blk7 c3 (by omega)).frozen 0
                 have q4 := (n5.blk7 c4 (by omega)).cell 0
                 have f4 := (n5.blk7 c4 (by omega)).frozen 0
                 simp only [List.getElem?_toArray, List.getElem?_cons_zero] at q3 q4)
    have e2 := ((h5.far (p := ⟨w.heap.size + 1 + 1, 0, none⟩) (by simp) (.int .i64 0)).far (p := ⟨w.heap.size + 1 + 1 + 1, 0, none⟩) (by simp) (.int .i64 24))
    have e3 := ((n5.blk7 c3 (by omega)).set_ 0 (.int .i64 0)).far (p := ⟨w.heap.size + 1 + 1 + 1, 0, none⟩) (by simp) (.int .i64 24)
    have e4 := ((n5.blk7 c4 (by omega)).far (p := ⟨w.heap.size + 1 + 1, 0, none⟩) (by simp) (.int .i64 0)).set_ 0 (.int .i64 24)
    have b6 := ((hB.trans (n5.below _ (by omega) hB.size)).setCell (p := ⟨w.heap.size + 1 + 1, 0, none⟩) (by simp; omega) (.int .i64 0)).setCell (p := ⟨w.heap.size + 1 + 1 + 1, 0, none⟩) (by simp; omega) (.int .i64 24)
    have hK5 : V5.heap[D]? = some (.deferred (some [])) := (n5.block D hDW (by omega)).trans hK
    have hK6 : ((V5.setCell ⟨w.heap.size + 1 + 1, 0, none⟩ (.int .i64 0)).setCell ⟨w.heap.size + 1 + 1 + 1, 0, none⟩ (.int .i64 24)).heap[D]? = some (.deferred (some [])) := (KeepsOthers.setCell _ _ _).same D _ ((KeepsOthers.setCell V5 _ _).same D _ hK5 rfl) rfl
    generalize (V5.setCell ⟨w.heap.size + 1 + 1, 0, none⟩ (.int .i64 0)).setCell ⟨w.heap.size + 1 + 1 + 1, 0, none⟩ (.int .i64 24) = V6 at e2 e3 e4 b6 hK6 ⊢
    have hg3 := grownBy_putObj' V6 D (.deferred none)
    have hr3 : ∀ r, some D = some r → ∃ o : Obj, V6.heap[r]? = some o ∧ o.isCells = false := fun r e => by cases e; exact ⟨_, hK6, rfl⟩
    refine ⟨by simp, .inl ⟨_, _, rfl, run_takeDeferred hK6, ?_⟩⟩
    refine ⟨_, results_cells3 rfl _ _ (w.heap.size + 1) (w.heap.size + 1 + 1) (w.heap.size + 1 + 1 + 1) 24 (pdC 0 none 0 0) _ _ _ rfl rfl rfl (blk_own e2 hg3 hr3) Tryz.underlying24 rfl (pd_inf _ _ _ _) (int_load _ _ _ _ (blk_own e3 hg3 hr3)) (no_load _ _ _ _ (blk_own e4 hg3 hr3)), ?_⟩
    refine ⟨none, 0, 0, 0, [], 0, 24, rfl, zo_nil _ _, ?_, b6.trans (belowK_b (w := w) (Nat.le_refl _) V6 D _ _ (by omega) hK6 rfl rfl)⟩
    unfold takeV
    rw [if_pos H0.out, htn, HFN.out]
  case stop =>
    rintro D cd pre W hD ⟨k, hk, hpre⟩ ⟨⟨rfl, ini, x, rfl, h1, h2, A', m', c', e2, e3, e4, z⟩, hB⟩ hK
    have hfx : nextP an l = some x.val := find_pre (fun x : Fin 20 => x.val) (fun i => !l.contains ((cand an i : Nat) : Int)) (k := k) (by rw [hpre, List.take_range, Nat.min_eq_left (by omega)]) h1 h2
    have HFX := Lib.hid hfx
    clear hfx
    have hw2 : w.heap.size + 1 + 1 + 1 < w2.heap.size := k42.lt
    have hg3 := grownBy_putObj' W D (.deferred none)
    have hr3 : ∀ r, some D = some r → ∃ o : Obj, W.heap[r]? = some o ∧ o.isCells = false := fun r e => by cases e; exact ⟨_, hK, rfl⟩
    gi_wp2
    refine ⟨by simp, .inl ⟨_, _, rfl, run_takeDeferred hK, ?_⟩⟩
    refine ⟨_, results_cells3 rfl _ _ (w.heap.size + 1) (w.heap.size + 1 + 1) (w.heap.size + 1 + 1 + 1) 24 _ _ _ _ rfl rfl rfl (blk_own e2 hg3 hr3) Tryz.underlying24 rfl (pd_inf _ _ _ _) (int_load _ _ _ _ (blk_own e3 hg3 hr3)) (no_load _ _ _ _ (blk_own e4 hg3 hr3)), ?_⟩
    refine ⟨A', m', c', _, _, _, 0, rfl, zo_own z hg3 hr3, ?_, hB.trans (belowK_b (w := w) (Nat.le_refl _) W D _ _ (by omega) hK rfl rfl)⟩
    unfold takeV
    rw [if_pos H0.out, htn, HFX.out]
theorem take_pid (a : Int) (A : Option Addr) (m c : Nat) (l : List Int) (w : World) (hA : Ri7 w w.heap.size A l) (hm : m = l.length) (h6 : m ≤ 1000000) :
    Calls Tryz.prog 90 #[pdV a A m c] w fun e w' => ∃ A' m' c' a' l' id er, e = .returned (.tuple #[pdV a' A' m' c', .int .i64 id, .int .i64 er]) ∧ Zo w' w.heap.size A' m' c' l' ∧ takeV a l = (a', l', id, er) ∧ Below w.heap.size w w' := by
  by_cases h : Ids a l
  · exact callsIn_wide.1 (take_in a A m c l w hA hm h6 h)
  · refine (take_no a A m c l w hA hm h6 (pidE_no h)).mono ?_
    rintro e w' ⟨rfl, hb⟩
    refine ⟨none, 0, 0, 0, [], 0, 200, rfl, zo_nil _ _, ?_, hb⟩
    unfold takeV
    rw [if_neg (by rw [pidE_no h]; decide)]
end Go.Proofs.YtlelhhgggnjndaaGreat
