/-
  BitmapFits, walked. (gen7/genlf.py)
-/
import Derived.Test.YtejhamkmfnfmoaaDoorBmY
import Derived.Test.YtejhamkmfnfmoaaDoorHD
namespace Go.Proofs.YtejhamkmfnfmoaaDoor
open Go.RowKit
set_option linter.unusedVariables false
set_option linter.unusedSimpArgs false

theorem fitA_f {x : Int} {k : Ab} (h : k.k = false) : fitA x k = true := by simp [fitA, h]
theorem fitA_t {x : Int} {k : Ab} (h : k.k = true) : fitA x k = (k.v == x) := by
  obtain ⟨kk, v⟩ := k
  simp only at h
  subst h
  unfold fitA sureA
  rw [Bool.eq_iff_iff]
  simp
/-- What the law has reckoned behind k words. -/
def cutB (b : Bool) (mem : List Int) (m : List Ab) (k : Nat) : Bool := b && (List.range k).all (fitN mem m)
theorem cutB_s (b : Bool) (mem : List Int) (m : List Ab) (k : Nat) : cutB b mem m (k + 1) = (cutB b mem m k && fitN mem m k) := by
  unfold cutB
  rw [List.range_succ, List.all_append, Bool.and_assoc]
  simp
set_option maxRecDepth 100000 in
set_option maxHeartbeats 4000000 in
theorem lf_0 (p a x : Int) (mem : List Int) (hm : mem.length = 16) (s : StS) (hl : s.m.length = 16) (w : World) (hK : HK w) (hr : s.r = false) :
    Calls Tryd.prog 3 #[.agg (mcC p a x mem), stV s] w fun e w' => e = .returned (.bool true) ∧ Below w.heap.size w w' := by
  have hfit : fitS a x mem s = cutB false mem s.m 16 := by
    unfold fitS cutB
    rw [hr]
    simp
  have J := MS2.new w p a x mem s
  have W := wakes7_any _ (hK.below J.old (Nat.le_refl _))
  have C := fun V => Fits_any p a x mem hm s hl V
  rw [hfit] at C
  have hstep := fun k => cutB_s false mem s.m k
  have h00 : cutB false mem s.m 0 = false := by simp [cutB]
  unfold stV at C ⊢
  have HR := Lib.hid hr
  clear hr hfit
  generalize hcb : cutB false mem s.m = cb at C hstep h00
  clear hcb
  go_enter Tryd.func3, Tryd.ntmps3
  go_wp2_with fail
  refine W.mono ?_
  rintro e w1 ⟨rfl, b1⟩
  have J1 := J.below b1
  clear W b1 J
  obtain ⟨m1, m2⟩ := J1.mc
  obtain ⟨s0, s1, s2, s3, s4⟩ := J1.st
  rw [HR.out] at s0
  have H00 := Lib.hid h00
  clear h00
  go_wp2_with fail
  clear m1 m2 s0 s1 s2 s3 s4
  go_loopw [5, 39] (fun c i wr => ∃ k : Nat, k ≤ 16 ∧ i = .int .i64 (k : Int) ∧ c = .bool (cb k) ∧ MS2 w wr p a x mem s) (fun _ i _ => 16 - (intOf i).toNat)
  case atStart => exact ⟨0, by omega, rfl, by rw [H00.out], J1⟩
  case round =>
    obtain ⟨k, hk, rfl, rfl, Jk⟩ := hrel
    obtain ⟨wo, rfl⟩ : ∃ wo : World, wo = wr := ⟨_, rfl⟩
    by_cases hlt : k < 16
    · have hlt' : (k : Int) < 16 := by omega
      obtain ⟨q0, q1⟩ := st_m Jk.ks hl hlt
      have q2 := Jk.word hm hlt
      have hst := hstep k
      have hfn : fitN mem s.m k = fitA (mem.getD k 0) (s.m.getD k ab0) := rfl
      obtain ⟨⟨uk, uv⟩, hu⟩ : ∃ u, s.m.getD k ab0 = u := ⟨_, rfl⟩
      obtain ⟨v, hv⟩ : ∃ v, mem.getD k 0 = v := ⟨_, rfl⟩
      rw [hu] at q0 q1 hfn
      rw [hv] at q2 hfn
      simp only at q0 q1
      rw [hfn] at hst
      obtain ⟨c, hc⟩ : ∃ c, cb k = c := ⟨_, rfl⟩
      rw [hc] at hst ⊢
      have HU : uk = false ∨ (uk = true ∧ (uv == v) = true) ∨ (uk = true ∧ (uv == v) = false) := by cases uk <;> cases (uv == v) <;> simp
      clear hfn hu hv hc
      cases c
      · have HST := Lib.hid (show cb (k + 1) = false by rw [hst]; rfl)
        clear hst HU
        go_wp2_with fail
        go_quiet (fail)
        go_wp2_with fail
        go_roundw
        case rel => exact ⟨k + 1, by omega, by go_num, by rw [HST.out], Jk.below (below_drewN (Below.refl _ _) _)⟩
        case measure => simp [intOf]; omega
      · rcases HU with rfl | ⟨rfl, hq⟩ | ⟨rfl, hq⟩
        · have HST := Lib.hid (show cb (k + 1) = true by rw [hst, fitA_f rfl]; rfl)
          clear hst
          go_wp2_with fail
          go_quiet (fail)
          go_wp2_with fail
          go_roundw
          case rel => exact ⟨k + 1, by omega, by go_num, by rw [HST.out], Jk.below (below_drewN (Below.refl _ _) _)⟩
          case measure => simp [intOf]; omega
        · have HST := Lib.hid (show cb (k + 1) = true by rw [hst, fitA_t rfl, hq]; rfl)
          clear hst
          go_wp2_with fail
          go_quiet (fail)
          go_wp2_with fail
          go_roundw
          case rel => exact ⟨k + 1, by omega, by go_num, by rw [HST.out], Jk.below (below_drewN (Below.refl _ _) _)⟩
          case measure => simp [intOf]; omega
        · have HST := Lib.hid (show cb (k + 1) = false by rw [hst, fitA_t rfl, hq]; rfl)
          clear hst
          go_wp2_with fail
          go_quiet (fail)
          go_wp2_with fail
          go_roundw
          case rel => exact ⟨k + 1, by omega, by go_num, by rw [HST.out], Jk.below (below_drewN (Below.refl _ _) _)⟩
          case measure => simp [intOf]; omega
    · obtain rfl : k = 16 := by omega
      clear hstep
      obtain ⟨c, hc⟩ : ∃ c, cb 16 = c := ⟨_, rfl⟩
      rw [hc] at C ⊢
      clear hc
      cases c
      all_goals
        go_wp2_with (first
          | (refine wpList_load_row rfl 25 (.tmp 2) rfl w.heap.size rfl 25 (mcC p a x mem) (0, 0) _ Jk.km.blk Tryd.underlying25 rfl (mc_inf hm) ?_)
          | (refine wpList_load_row rfl 30 (.tmp 3) rfl (w.heap.size + 1) rfl 30 (stC s) (0, 0) _ Jk.ks.blk Tryd.underlying30 rfl (st_inf hl) ?_))
        refine (C _).mono ?_
        rintro e w9 ⟨rfl, b9⟩
        have J9 := Jk.below b9
        clear C b9 Jk
        go_wp2_with fail
        go_ret
        exact ⟨rfl, J9.old⟩
set_option maxRecDepth 100000 in
set_option maxHeartbeats 4000000 in
theorem lf_1 (p a x : Int) (mem : List Int) (hm : mem.length = 16) (s : StS) (hl : s.m.length = 16) (w : World) (hK : HK w) (hr : s.r = true) (hak : s.a.k = false) (hxk : s.x.k = false) :
    Calls Tryd.prog 3 #[.agg (mcC p a x mem), stV s] w fun e w' => e = .returned (.bool true) ∧ Below w.heap.size w w' := by
  have hfit : fitS a x mem s = cutB true mem s.m 16 := by
    unfold fitS cutB
    rw [hr, fitA_f hak, fitA_f hxk]
    simp
  have J := MS2.new w p a x mem s
  have W := wakes7_any _ (hK.below J.old (Nat.le_refl _))
  have C := fun V => Fits_any p a x mem hm s hl V
  rw [hfit] at C
  have hstep := fun k => cutB_s true mem s.m k
  have h00 : cutB true mem s.m 0 = true := by simp [cutB]
  unfold stV at C ⊢
  have HR := Lib.hid hr
  have HAK := Lib.hid hak
  have HXK := Lib.hid hxk
  clear hr hfit hak hxk
  generalize hcb : cutB true mem s.m = cb at C hstep h00
  clear hcb
  go_enter Tryd.func3, Tryd.ntmps3
  go_wp2_with fail
  refine W.mono ?_
  rintro e w1 ⟨rfl, b1⟩
  have J1 := J.below b1
  clear W b1 J
  obtain ⟨m1, m2⟩ := J1.mc
  obtain ⟨s0, s1, s2, s3, s4⟩ := J1.st
  rw [HR.out] at s0
  rw [HAK.out] at s1
  rw [HXK.out] at s3
  have H00 := Lib.hid h00
  clear h00
  go_wp2_with fail
  clear m1 m2 s0 s1 s2 s3 s4
  go_loopw [5, 39] (fun c i wr => ∃ k : Nat, k ≤ 16 ∧ i = .int .i64 (k : Int) ∧ c = .bool (cb k) ∧ MS2 w wr p a x mem s) (fun _ i _ => 16 - (intOf i).toNat)
  case atStart => exact ⟨0, by omega, rfl, by rw [H00.out], J1⟩
  case round =>
    obtain ⟨k, hk, rfl, rfl, Jk⟩ := hrel
    obtain ⟨wo, rfl⟩ : ∃ wo : World, wo = wr := ⟨_, rfl⟩
    by_cases hlt : k < 16
    · have hlt' : (k : Int) < 16 := by omega
      obtain ⟨q0, q1⟩ := st_m Jk.ks hl hlt
      have q2 := Jk.word hm hlt
      have hst := hstep k
      have hfn : fitN mem s.m k = fitA (mem.getD k 0) (s.m.getD k ab0) := rfl
      obtain ⟨⟨uk, uv⟩, hu⟩ : ∃ u, s.m.getD k ab0 = u := ⟨_, rfl⟩
      obtain ⟨v, hv⟩ : ∃ v, mem.getD k 0 = v := ⟨_, rfl⟩
      rw [hu] at q0 q1 hfn
      rw [hv] at q2 hfn
      simp only at q0 q1
      rw [hfn] at hst
      obtain ⟨c, hc⟩ : ∃ c, cb k = c := ⟨_, rfl⟩
      rw [hc] at hst ⊢
      have HU : uk = false ∨ (uk = true ∧ (uv == v) = true) ∨ (uk = true ∧ (uv == v) = false) := by cases uk <;> cases (uv == v) <;> simp
      clear hfn hu hv hc
      cases c
      · have HST := Lib.hid (show cb (k + 1) = false by rw [hst]; rfl)
        clear hst HU
        go_wp2_with fail
        go_quiet (fail)
        go_wp2_with fail
        go_roundw
        case rel => exact ⟨k + 1, by omega, by go_num, by rw [HST.out], Jk.below (below_drewN (Below.refl _ _) _)⟩
        case measure => simp [intOf]; omega
      · rcases HU with rfl | ⟨rfl, hq⟩ | ⟨rfl, hq⟩
        · have HST := Lib.hid (show cb (k + 1) = true by rw [hst, fitA_f rfl]; rfl)
          clear hst
          go_wp2_with fail
          go_quiet (fail)
          go_wp2_with fail
          go_roundw
          case rel => exact ⟨k + 1, by omega, by go_num, by rw [HST.out], Jk.below (below_drewN (Below.refl _ _) _)⟩
          case measure => simp [intOf]; omega
        · have HST := Lib.hid (show cb (k + 1) = true by rw [hst, fitA_t rfl, hq]; rfl)
          clear hst
          go_wp2_with fail
          go_quiet (fail)
          go_wp2_with fail
          go_roundw
          case rel => exact ⟨k + 1, by omega, by go_num, by rw [HST.out], Jk.below (below_drewN (Below.refl _ _) _)⟩
          case measure => simp [intOf]; omega
        · have HST := Lib.hid (show cb (k + 1) = false by rw [hst, fitA_t rfl, hq]; rfl)
          clear hst
          go_wp2_with fail
          go_quiet (fail)
          go_wp2_with fail
          go_roundw
          case rel => exact ⟨k + 1, by omega, by go_num, by rw [HST.out], Jk.below (below_drewN (Below.refl _ _) _)⟩
          case measure => simp [intOf]; omega
    · obtain rfl : k = 16 := by omega
      clear hstep
      obtain ⟨c, hc⟩ : ∃ c, cb 16 = c := ⟨_, rfl⟩
      rw [hc] at C ⊢
      clear hc
      cases c
      all_goals
        go_wp2_with (first
          | (refine wpList_load_row rfl 25 (.tmp 2) rfl w.heap.size rfl 25 (mcC p a x mem) (0, 0) _ Jk.km.blk Tryd.underlying25 rfl (mc_inf hm) ?_)
          | (refine wpList_load_row rfl 30 (.tmp 3) rfl (w.heap.size + 1) rfl 30 (stC s) (0, 0) _ Jk.ks.blk Tryd.underlying30 rfl (st_inf hl) ?_))
        refine (C _).mono ?_
        rintro e w9 ⟨rfl, b9⟩
        have J9 := Jk.below b9
        clear C b9 Jk
        go_wp2_with fail
        go_ret
        exact ⟨rfl, J9.old⟩
set_option maxRecDepth 100000 in
set_option maxHeartbeats 4000000 in
theorem lf_2 (p a x : Int) (mem : List Int) (hm : mem.length = 16) (s : StS) (hl : s.m.length = 16) (w : World) (hK : HK w) (hr : s.r = true) (hak : s.a.k = false) (hxk : s.x.k = true) (hxv : (s.x.v == x) = true) :
    Calls Tryd.prog 3 #[.agg (mcC p a x mem), stV s] w fun e w' => e = .returned (.bool true) ∧ Below w.heap.size w w' := by
  have hfit : fitS a x mem s = cutB true mem s.m 16 := by
    unfold fitS cutB
    rw [hr, fitA_f hak, fitA_t hxk, hxv]
    simp
  have J := MS2.new w p a x mem s
  have W := wakes7_any _ (hK.below J.old (Nat.le_refl _))
  have C := fun V => Fits_any p a x mem hm s hl V
  rw [hfit] at C
  have hstep := fun k => cutB_s true mem s.m k
  have h00 : cutB true mem s.m 0 = true := by simp [cutB]
  unfold stV at C ⊢
  have HR := Lib.hid hr
  have HAK := Lib.hid hak
  have HXK := Lib.hid hxk
  clear hr hfit hak hxk
  generalize hcb : cutB true mem s.m = cb at C hstep h00
  clear hcb
  go_enter Tryd.func3, Tryd.ntmps3
  go_wp2_with fail
  refine W.mono ?_
  rintro e w1 ⟨rfl, b1⟩
  have J1 := J.below b1
  clear W b1 J
  obtain ⟨m1, m2⟩ := J1.mc
  obtain ⟨s0, s1, s2, s3, s4⟩ := J1.st
  rw [HR.out] at s0
  rw [HAK.out] at s1
  rw [HXK.out] at s3
  have H00 := Lib.hid h00
  clear h00
  go_wp2_with fail
  clear m1 m2 s0 s1 s2 s3 s4
  go_loopw [5, 39] (fun c i wr => ∃ k : Nat, k ≤ 16 ∧ i = .int .i64 (k : Int) ∧ c = .bool (cb k) ∧ MS2 w wr p a x mem s) (fun _ i _ => 16 - (intOf i).toNat)
  case atStart => exact ⟨0, by omega, rfl, by rw [H00.out], J1⟩
  case round =>
    obtain ⟨k, hk, rfl, rfl, Jk⟩ := hrel
    obtain ⟨wo, rfl⟩ : ∃ wo : World, wo = wr := ⟨_, rfl⟩
    by_cases hlt : k < 16
    · have hlt' : (k : Int) < 16 := by omega
      obtain ⟨q0, q1⟩ := st_m Jk.ks hl hlt
      have q2 := Jk.word hm hlt
      have hst := hstep k
      have hfn : fitN mem s.m k = fitA (mem.getD k 0) (s.m.getD k ab0) := rfl
      obtain ⟨⟨uk, uv⟩, hu⟩ : ∃ u, s.m.getD k ab0 = u := ⟨_, rfl⟩
      obtain ⟨v, hv⟩ : ∃ v, mem.getD k 0 = v := ⟨_, rfl⟩
      rw [hu] at q0 q1 hfn
      rw [hv] at q2 hfn
      simp only at q0 q1
      rw [hfn] at hst
      obtain ⟨c, hc⟩ : ∃ c, cb k = c := ⟨_, rfl⟩
      rw [hc] at hst ⊢
      have HU : uk = false ∨ (uk = true ∧ (uv == v) = true) ∨ (uk = true ∧ (uv == v) = false) := by cases uk <;> cases (uv == v) <;> simp
      clear hfn hu hv hc
      cases c
      · have HST := Lib.hid (show cb (k + 1) = false by rw [hst]; rfl)
        clear hst HU
        go_wp2_with fail
        go_quiet (fail)
        go_wp2_with fail
        go_roundw
        case rel => exact ⟨k + 1, by omega, by go_num, by rw [HST.out], Jk.below (below_drewN (Below.refl _ _) _)⟩
        case measure => simp [intOf]; omega
      · rcases HU with rfl | ⟨rfl, hq⟩ | ⟨rfl, hq⟩
        · have HST := Lib.hid (show cb (k + 1) = true by rw [hst, fitA_f rfl]; rfl)
          clear hst
          go_wp2_with fail
          go_quiet (fail)
          go_wp2_with fail
          go_roundw
          case rel => exact ⟨k + 1, by omega, by go_num, by rw [HST.out], Jk.below (below_drewN (Below.refl _ _) _)⟩
          case measure => simp [intOf]; omega
        · have HST := Lib.hid (show cb (k + 1) = true by rw [hst, fitA_t rfl, hq]; rfl)
          clear hst
          go_wp2_with fail
          go_quiet (fail)
          go_wp2_with fail
          go_roundw
          case rel => exact ⟨k + 1, by omega, by go_num, by rw [HST.out], Jk.below (below_drewN (Below.refl _ _) _)⟩
          case measure => simp [intOf]; omega
        · have HST := Lib.hid (show cb (k + 1) = false by rw [hst, fitA_t rfl, hq]; rfl)
          clear hst
          go_wp2_with fail
          go_quiet (fail)
          go_wp2_with fail
          go_roundw
          case rel => exact ⟨k + 1, by omega, by go_num, by rw [HST.out], Jk.below (below_drewN (Below.refl _ _) _)⟩
          case measure => simp [intOf]; omega
    · obtain rfl : k = 16 := by omega
      clear hstep
      obtain ⟨c, hc⟩ : ∃ c, cb 16 = c := ⟨_, rfl⟩
      rw [hc] at C ⊢
      clear hc
      cases c
      all_goals
        go_wp2_with (first
          | (refine wpList_load_row rfl 25 (.tmp 2) rfl w.heap.size rfl 25 (mcC p a x mem) (0, 0) _ Jk.km.blk Tryd.underlying25 rfl (mc_inf hm) ?_)
          | (refine wpList_load_row rfl 30 (.tmp 3) rfl (w.heap.size + 1) rfl 30 (stC s) (0, 0) _ Jk.ks.blk Tryd.underlying30 rfl (st_inf hl) ?_))
        refine (C _).mono ?_
        rintro e w9 ⟨rfl, b9⟩
        have J9 := Jk.below b9
        clear C b9 Jk
        go_wp2_with fail
        go_ret
        exact ⟨rfl, J9.old⟩
set_option maxRecDepth 100000 in
set_option maxHeartbeats 4000000 in
theorem lf_3 (p a x : Int) (mem : List Int) (hm : mem.length = 16) (s : StS) (hl : s.m.length = 16) (w : World) (hK : HK w) (hr : s.r = true) (hak : s.a.k = false) (hxk : s.x.k = true) (hxv : (s.x.v == x) = false) :
    Calls Tryd.prog 3 #[.agg (mcC p a x mem), stV s] w fun e w' => e = .returned (.bool true) ∧ Below w.heap.size w w' := by
  have hfit : fitS a x mem s = cutB false mem s.m 16 := by
    unfold fitS cutB
    rw [hr, fitA_f hak, fitA_t hxk, hxv]
    simp
  have J := MS2.new w p a x mem s
  have W := wakes7_any _ (hK.below J.old (Nat.le_refl _))
  have C := fun V => Fits_any p a x mem hm s hl V
  rw [hfit] at C
  have hstep := fun k => cutB_s false mem s.m k
  have h00 : cutB false mem s.m 0 = false := by simp [cutB]
  unfold stV at C ⊢
  have HR := Lib.hid hr
  have HAK := Lib.hid hak
  have HXK := Lib.hid hxk
  clear hr hfit hak hxk
  generalize hcb : cutB false mem s.m = cb at C hstep h00
  clear hcb
  go_enter Tryd.func3, Tryd.ntmps3
  go_wp2_with fail
  refine W.mono ?_
  rintro e w1 ⟨rfl, b1⟩
  have J1 := J.below b1
  clear W b1 J
  obtain ⟨m1, m2⟩ := J1.mc
  obtain ⟨s0, s1, s2, s3, s4⟩ := J1.st
  rw [HR.out] at s0
  rw [HAK.out] at s1
  rw [HXK.out] at s3
  have H00 := Lib.hid h00
  clear h00
  go_wp2_with fail
  clear m1 m2 s0 s1 s2 s3 s4
  go_loopw [5, 39] (fun c i wr => ∃ k : Nat, k ≤ 16 ∧ i = .int .i64 (k : Int) ∧ c = .bool (cb k) ∧ MS2 w wr p a x mem s) (fun _ i _ => 16 - (intOf i).toNat)
  case atStart => exact ⟨0, by omega, rfl, by rw [H00.out], J1⟩
  case round =>
    obtain ⟨k, hk, rfl, rfl, Jk⟩ := hrel
    obtain ⟨wo, rfl⟩ : ∃ wo : World, wo = wr := ⟨_, rfl⟩
    by_cases hlt : k < 16
    · have hlt' : (k : Int) < 16 := by omega
      obtain ⟨q0, q1⟩ := st_m Jk.ks hl hlt
      have q2 := Jk.word hm hlt
      have hst := hstep k
      have hfn : fitN mem s.m k = fitA (mem.getD k 0) (s.m.getD k ab0) := rfl
      obtain ⟨⟨uk, uv⟩, hu⟩ : ∃ u, s.m.getD k ab0 = u := ⟨_, rfl⟩
      obtain ⟨v, hv⟩ : ∃ v, mem.getD k 0 = v := ⟨_, rfl⟩
      rw [hu] at q0 q1 hfn
      rw [hv] at q2 hfn
      simp only at q0 q1
      rw [hfn] at hst
      obtain ⟨c, hc⟩ : ∃ c, cb k = c := ⟨_, rfl⟩
      rw [hc] at hst ⊢
      have HU : uk = false ∨ (uk = true ∧ (uv == v) = true) ∨ (uk = true ∧ (uv == v) = false) := by cases uk <;> cases (uv == v) <;> simp
      clear hfn hu hv hc
      cases c
      · have HST := Lib.hid (show cb (k + 1) = false by rw [hst]; rfl)
        clear hst HU
        go_wp2_with fail
        go_quiet (fail)
        go_wp2_with fail
        go_roundw
        case rel => exact ⟨k + 1, by omega, by go_num, by rw [HST.out], Jk.below (below_drewN (Below.refl _ _) _)⟩
        case measure => simp [intOf]; omega
      · rcases HU with rfl | ⟨rfl, hq⟩ | ⟨rfl, hq⟩
        · have HST := Lib.hid (show cb (k + 1) = true by rw [hst, fitA_f rfl]; rfl)
          clear hst
          go_wp2_with fail
          go_quiet (fail)
          go_wp2_with fail
          go_roundw
          case rel => exact ⟨k + 1, by omega, by go_num, by rw [HST.out], Jk.below (below_drewN (Below.refl _ _) _)⟩
          case measure => simp [intOf]; omega
        · have HST := Lib.hid (show cb (k + 1) = true by rw [hst, fitA_t rfl, hq]; rfl)
          clear hst
          go_wp2_with fail
          go_quiet (fail)
          go_wp2_with fail
          go_roundw
          case rel => exact ⟨k + 1, by omega, by go_num, by rw [HST.out], Jk.below (below_drewN (Below.refl _ _) _)⟩
          case measure => simp [intOf]; omega
        · have HST := Lib.hid (show cb (k + 1) = false by rw [hst, fitA_t rfl, hq]; rfl)
          clear hst
          go_wp2_with fail
          go_quiet (fail)
          go_wp2_with fail
          go_roundw
          case rel => exact ⟨k + 1, by omega, by go_num, by rw [HST.out], Jk.below (below_drewN (Below.refl _ _) _)⟩
          case measure => simp [intOf]; omega
    · obtain rfl : k = 16 := by omega
      clear hstep
      obtain ⟨c, hc⟩ : ∃ c, cb 16 = c := ⟨_, rfl⟩
      rw [hc] at C ⊢
      clear hc
      cases c
      all_goals
        go_wp2_with (first
          | (refine wpList_load_row rfl 25 (.tmp 2) rfl w.heap.size rfl 25 (mcC p a x mem) (0, 0) _ Jk.km.blk Tryd.underlying25 rfl (mc_inf hm) ?_)
          | (refine wpList_load_row rfl 30 (.tmp 3) rfl (w.heap.size + 1) rfl 30 (stC s) (0, 0) _ Jk.ks.blk Tryd.underlying30 rfl (st_inf hl) ?_))
        refine (C _).mono ?_
        rintro e w9 ⟨rfl, b9⟩
        have J9 := Jk.below b9
        clear C b9 Jk
        go_wp2_with fail
        go_ret
        exact ⟨rfl, J9.old⟩
set_option maxRecDepth 100000 in
set_option maxHeartbeats 4000000 in
theorem lf_4 (p a x : Int) (mem : List Int) (hm : mem.length = 16) (s : StS) (hl : s.m.length = 16) (w : World) (hK : HK w) (hr : s.r = true) (hak : s.a.k = true) (hav : (s.a.v == a) = true) (hxk : s.x.k = false) :
    Calls Tryd.prog 3 #[.agg (mcC p a x mem), stV s] w fun e w' => e = .returned (.bool true) ∧ Below w.heap.size w w' := by
  have hfit : fitS a x mem s = cutB true mem s.m 16 := by
    unfold fitS cutB
    rw [hr, fitA_t hak, hav, fitA_f hxk]
    simp
  have J := MS2.new w p a x mem s
  have W := wakes7_any _ (hK.below J.old (Nat.le_refl _))
  have C := fun V => Fits_any p a x mem hm s hl V
  rw [hfit] at C
  have hstep := fun k => cutB_s true mem s.m k
  have h00 : cutB true mem s.m 0 = true := by simp [cutB]
  unfold stV at C ⊢
  have HR := Lib.hid hr
  have HAK := Lib.hid hak
  have HXK := Lib.hid hxk
  clear hr hfit hak hxk
  generalize hcb : cutB true mem s.m = cb at C hstep h00
  clear hcb
  go_enter Tryd.func3, Tryd.ntmps3
  go_wp2_with fail
  refine W.mono ?_
  rintro e w1 ⟨rfl, b1⟩
  have J1 := J.below b1
  clear W b1 J
  obtain ⟨m1, m2⟩ := J1.mc
  obtain ⟨s0, s1, s2, s3, s4⟩ := J1.st
  rw [HR.out] at s0
  rw [HAK.out] at s1
  rw [HXK.out] at s3
  have H00 := Lib.hid h00
  clear h00
  go_wp2_with fail
  clear m1 m2 s0 s1 s2 s3 s4
  go_loopw [5, 39] (fun c i wr => ∃ k : Nat, k ≤ 16 ∧ i = .int .i64 (k : Int) ∧ c = .bool (cb k) ∧ MS2 w wr p a x mem s) (fun _ i _ => 16 - (intOf i).toNat)
  case atStart => exact ⟨0, by omega, rfl, by rw [H00.out], J1⟩
  case round =>
    obtain ⟨k, hk, rfl, rfl, Jk⟩ := hrel
    obtain ⟨wo, rfl⟩ : ∃ wo : World, wo = wr := ⟨_, rfl⟩
    by_cases hlt : k < 16
    · have hlt' : (k : Int) < 16 := by omega
      obtain ⟨q0, q1⟩ := st_m Jk.ks hl hlt
      have q2 := Jk.word hm hlt
      have hst := hstep k
      have hfn : fitN mem s.m k = fitA (mem.getD k 0) (s.m.getD k ab0) := rfl
      obtain ⟨⟨uk, uv⟩, hu⟩ : ∃ u, s.m.getD k ab0 = u := ⟨_, rfl⟩
      obtain ⟨v, hv⟩ : ∃ v, mem.getD k 0 = v := ⟨_, rfl⟩
      rw [hu] at q0 q1 hfn
      rw [hv] at q2 hfn
      simp only at q0 q1
      rw [hfn] at hst
      obtain ⟨c, hc⟩ : ∃ c, cb k = c := ⟨_, rfl⟩
      rw [hc] at hst ⊢
      have HU : uk = false ∨ (uk = true ∧ (uv == v) = true) ∨ (uk = true ∧ (uv == v) = false) := by cases uk <;> cases (uv == v) <;> simp
      clear hfn hu hv hc
      cases c
      · have HST := Lib.hid (show cb (k + 1) = false by rw [hst]; rfl)
        clear hst HU
        go_wp2_with fail
        go_quiet (fail)
        go_wp2_with fail
        go_roundw
        case rel => exact ⟨k + 1, by omega, by go_num, by rw [HST.out], Jk.below (below_drewN (Below.refl _ _) _)⟩
        case measure => simp [intOf]; omega
      · rcases HU with rfl | ⟨rfl, hq⟩ | ⟨rfl, hq⟩
        · have HST := Lib.hid (show cb (k + 1) = true by rw [hst, fitA_f rfl]; rfl)
          clear hst
          go_wp2_with fail
          go_quiet (fail)
          go_wp2_with fail
          go_roundw
          case rel => exact ⟨k + 1, by omega, by go_num, by rw [HST.out], Jk.below (below_drewN (Below.refl _ _) _)⟩
          case measure => simp [intOf]; omega
        · have HST := Lib.hid (show cb (k + 1) = true by rw [hst, fitA_t rfl, hq]; rfl)
          clear hst
          go_wp2_with fail
          go_quiet (fail)
          go_wp2_with fail
          go_roundw
          case rel => exact ⟨k + 1, by omega, by go_num, by rw [HST.out], Jk.below (below_drewN (Below.refl _ _) _)⟩
          case measure => simp [intOf]; omega
        · have HST := Lib.hid (show cb (k + 1) = false by rw [hst, fitA_t rfl, hq]; rfl)
          clear hst
          go_wp2_with fail
          go_quiet (fail)
          go_wp2_with fail
          go_roundw
          case rel => exact ⟨k + 1, by omega, by go_num, by rw [HST.out], Jk.below (below_drewN (Below.refl _ _) _)⟩
          case measure => simp [intOf]; omega
    · obtain rfl : k = 16 := by omega
      clear hstep
      obtain ⟨c, hc⟩ : ∃ c, cb 16 = c := ⟨_, rfl⟩
      rw [hc] at C ⊢
      clear hc
      cases c
      all_goals
        go_wp2_with (first
          | (refine wpList_load_row rfl 25 (.tmp 2) rfl w.heap.size rfl 25 (mcC p a x mem) (0, 0) _ Jk.km.blk Tryd.underlying25 rfl (mc_inf hm) ?_)
          | (refine wpList_load_row rfl 30 (.tmp 3) rfl (w.heap.size + 1) rfl 30 (stC s) (0, 0) _ Jk.ks.blk Tryd.underlying30 rfl (st_inf hl) ?_))
        refine (C _).mono ?_
        rintro e w9 ⟨rfl, b9⟩
        have J9 := Jk.below b9
        clear C b9 Jk
        go_wp2_with fail
        go_ret
        exact ⟨rfl, J9.old⟩
set_option maxRecDepth 100000 in
set_option maxHeartbeats 4000000 in
theorem lf_5 (p a x : Int) (mem : List Int) (hm : mem.length = 16) (s : StS) (hl : s.m.length = 16) (w : World) (hK : HK w) (hr : s.r = true) (hak : s.a.k = true) (hav : (s.a.v == a) = true) (hxk : s.x.k = true) (hxv : (s.x.v == x) = true) :
    Calls Tryd.prog 3 #[.agg (mcC p a x mem), stV s] w fun e w' => e = .returned (.bool true) ∧ Below w.heap.size w w' := by
  have hfit : fitS a x mem s = cutB true mem s.m 16 := by
    unfold fitS cutB
    rw [hr, fitA_t hak, hav, fitA_t hxk, hxv]
    simp
  have J := MS2.new w p a x mem s
  have W := wakes7_any _ (hK.below J.old (Nat.le_refl _))
  have C := fun V => Fits_any p a x mem hm s hl V
  rw [hfit] at C
  have hstep := fun k => cutB_s true mem s.m k
  have h00 : cutB true mem s.m 0 = true := by simp [cutB]
  unfold stV at C ⊢
  have HR := Lib.hid hr
  have HAK := Lib.hid hak
  have HXK := Lib.hid hxk
  clear hr hfit hak hxk
  generalize hcb : cutB true mem s.m = cb at C hstep h00
  clear hcb
  go_enter Tryd.func3, Tryd.ntmps3
  go_wp2_with fail
  refine W.mono ?_
  rintro e w1 ⟨rfl, b1⟩
  have J1 := J.below b1
  clear W b1 J
  obtain ⟨m1, m2⟩ := J1.mc
  obtain ⟨s0, s1, s2, s3, s4⟩ := J1.st
  rw [HR.out] at s0
  rw [HAK.out] at s1
  rw [HXK.out] at s3
  have H00 := Lib.hid h00
  clear h00
  go_wp2_with fail
  clear m1 m2 s0 s1 s2 s3 s4
  go_loopw [5, 39] (fun c i wr => ∃ k : Nat, k ≤ 16 ∧ i = .int .i64 (k : Int) ∧ c = .bool (cb k) ∧ MS2 w wr p a x mem s) (fun _ i _ => 16 - (intOf i).toNat)
  case atStart => exact ⟨0, by omega, rfl, by rw [H00.out], J1⟩
  case round =>
    obtain ⟨k, hk, rfl, rfl, Jk⟩ := hrel
    obtain ⟨wo, rfl⟩ : ∃ wo : World, wo = wr := ⟨_, rfl⟩
    by_cases hlt : k < 16
    · have hlt' : (k : Int) < 16 := by omega
      obtain ⟨q0, q1⟩ := st_m Jk.ks hl hlt
      have q2 := Jk.word hm hlt
      have hst := hstep k
      have hfn : fitN mem s.m k = fitA (mem.getD k 0) (s.m.getD k ab0) := rfl
      obtain ⟨⟨uk, uv⟩, hu⟩ : ∃ u, s.m.getD k ab0 = u := ⟨_, rfl⟩
      obtain ⟨v, hv⟩ : ∃ v, mem.getD k 0 = v := ⟨_, rfl⟩
      rw [hu] at q0 q1 hfn
      rw [hv] at q2 hfn
      simp only at q0 q1
      rw [hfn] at hst
      obtain ⟨c, hc⟩ : ∃ c, cb k = c := ⟨_, rfl⟩
      rw [hc] at hst ⊢
      have HU : uk = false ∨ (uk = true ∧ (uv == v) = true) ∨ (uk = true ∧ (uv == v) = false) := by cases uk <;> cases (uv == v) <;> simp
      clear hfn hu hv hc
      cases c
      · have HST := Lib.hid (show cb (k + 1) = false by rw [hst]; rfl)
        clear hst HU
        go_wp2_with fail
        go_quiet (fail)
        go_wp2_with fail
        go_roundw
        case rel => exact ⟨k + 1, by omega, by go_num, by rw [HST.out], Jk.below (below_drewN (Below.refl _ _) _)⟩
        case measure => simp [intOf]; omega
      · rcases HU with rfl | ⟨rfl, hq⟩ | ⟨rfl, hq⟩
        · have HST := Lib.hid (show cb (k + 1) = true by rw [hst, fitA_f rfl]; rfl)
          clear hst
          go_wp2_with fail
          go_quiet (fail)
          go_wp2_with fail
          go_roundw
          case rel => exact ⟨k + 1, by omega, by go_num, by rw [HST.out], Jk.below (below_drewN (Below.refl _ _) _)⟩
          case measure => simp [intOf]; omega
        · have HST := Lib.hid (show cb (k + 1) = true by rw [hst, fitA_t rfl, hq]; rfl)
          clear hst
          go_wp2_with fail
          go_quiet (fail)
          go_wp2_with fail
          go_roundw
          case rel => exact ⟨k + 1, by omega, by go_num, by rw [HST.out], Jk.below (below_drewN (Below.refl _ _) _)⟩
          case measure => simp [intOf]; omega
        · have HST := Lib.hid (show cb (k + 1) = false by rw [hst, fitA_t rfl, hq]; rfl)
          clear hst
          go_wp2_with fail
          go_quiet (fail)
          go_wp2_with fail
          go_roundw
          case rel => exact ⟨k + 1, by omega, by go_num, by rw [HST.out], Jk.below (below_drewN (Below.refl _ _) _)⟩
          case measure => simp [intOf]; omega
    · obtain rfl : k = 16 := by omega
      clear hstep
      obtain ⟨c, hc⟩ : ∃ c, cb 16 = c := ⟨_, rfl⟩
      rw [hc] at C ⊢
      clear hc
      cases c
      all_goals
        go_wp2_with (first
          | (refine wpList_load_row rfl 25 (.tmp 2) rfl w.heap.size rfl 25 (mcC p a x mem) (0, 0) _ Jk.km.blk Tryd.underlying25 rfl (mc_inf hm) ?_)
          | (refine wpList_load_row rfl 30 (.tmp 3) rfl (w.heap.size + 1) rfl 30 (stC s) (0, 0) _ Jk.ks.blk Tryd.underlying30 rfl (st_inf hl) ?_))
        refine (C _).mono ?_
        rintro e w9 ⟨rfl, b9⟩
        have J9 := Jk.below b9
        clear C b9 Jk
        go_wp2_with fail
        go_ret
        exact ⟨rfl, J9.old⟩
set_option maxRecDepth 100000 in
set_option maxHeartbeats 4000000 in
theorem lf_6 (p a x : Int) (mem : List Int) (hm : mem.length = 16) (s : StS) (hl : s.m.length = 16) (w : World) (hK : HK w) (hr : s.r = true) (hak : s.a.k = true) (hav : (s.a.v == a) = true) (hxk : s.x.k = true) (hxv : (s.x.v == x) = false) :
    Calls Tryd.prog 3 #[.agg (mcC p a x mem), stV s] w fun e w' => e = .returned (.bool true) ∧ Below w.heap.size w w' := by
  have hfit : fitS a x mem s = cutB false mem s.m 16 := by
    unfold fitS cutB
    rw [hr, fitA_t hak, hav, fitA_t hxk, hxv]
    simp
  have J := MS2.new w p a x mem s
  have W := wakes7_any _ (hK.below J.old (Nat.le_refl _))
  have C := fun V => Fits_any p a x mem hm s hl V
  rw [hfit] at C
  have hstep := fun k => cutB_s false mem s.m k
  have h00 : cutB false mem s.m 0 = false := by simp [cutB]
  unfold stV at C ⊢
  have HR := Lib.hid hr
  have HAK := Lib.hid hak
  have HXK := Lib.hid hxk
  clear hr hfit hak hxk
  generalize hcb : cutB false mem s.m = cb at C hstep h00
  clear hcb
  go_enter Tryd.func3, Tryd.ntmps3
  go_wp2_with fail
  refine W.mono ?_
  rintro e w1 ⟨rfl, b1⟩
  have J1 := J.below b1
  clear W b1 J
  obtain ⟨m1, m2⟩ := J1.mc
  obtain ⟨s0, s1, s2, s3, s4⟩ := J1.st
  rw [HR.out] at s0
  rw [HAK.out] at s1
  rw [HXK.out] at s3
  have H00 := Lib.hid h00
  clear h00
  go_wp2_with fail
  clear m1 m2 s0 s1 s2 s3 s4
  go_loopw [5, 39] (fun c i wr => ∃ k : Nat, k ≤ 16 ∧ i = .int .i64 (k : Int) ∧ c = .bool (cb k) ∧ MS2 w wr p a x mem s) (fun _ i _ => 16 - (intOf i).toNat)
  case atStart => exact ⟨0, by omega, rfl, by rw [H00.out], J1⟩
  case round =>
    obtain ⟨k, hk, rfl, rfl, Jk⟩ := hrel
    obtain ⟨wo, rfl⟩ : ∃ wo : World, wo = wr := ⟨_, rfl⟩
    by_cases hlt : k < 16
    · have hlt' : (k : Int) < 16 := by omega
      obtain ⟨q0, q1⟩ := st_m Jk.ks hl hlt
      have q2 := Jk.word hm hlt
      have hst := hstep k
      have hfn : fitN mem s.m k = fitA (mem.getD k 0) (s.m.getD k ab0) := rfl
      obtain ⟨⟨uk, uv⟩, hu⟩ : ∃ u, s.m.getD k ab0 = u := ⟨_, rfl⟩
      obtain ⟨v, hv⟩ : ∃ v, mem.getD k 0 = v := ⟨_, rfl⟩
      rw [hu] at q0 q1 hfn
      rw [hv] at q2 hfn
      simp only at q0 q1
      rw [hfn] at hst
      obtain ⟨c, hc⟩ : ∃ c, cb k = c := ⟨_, rfl⟩
      rw [hc] at hst ⊢
      have HU : uk = false ∨ (uk = true ∧ (uv == v) = true) ∨ (uk = true ∧ (uv == v) = false) := by cases uk <;> cases (uv == v) <;> simp
      clear hfn hu hv hc
      cases c
      · have HST := Lib.hid (show cb (k + 1) = false by rw [hst]; rfl)
        clear hst HU
        go_wp2_with fail
        go_quiet (fail)
        go_wp2_with fail
        go_roundw
        case rel => exact ⟨k + 1, by omega, by go_num, by rw [HST.out], Jk.below (below_drewN (Below.refl _ _) _)⟩
        case measure => simp [intOf]; omega
      · rcases HU with rfl | ⟨rfl, hq⟩ | ⟨rfl, hq⟩
        · have HST := Lib.hid (show cb (k + 1) = true by rw [hst, fitA_f rfl]; rfl)
          clear hst
          go_wp2_with fail
          go_quiet (fail)
          go_wp2_with fail
          go_roundw
          case rel => exact ⟨k + 1, by omega, by go_num, by rw [HST.out], Jk.below (below_drewN (Below.refl _ _) _)⟩
          case measure => simp [intOf]; omega
        · have HST := Lib.hid (show cb (k + 1) = true by rw [hst, fitA_t rfl, hq]; rfl)
          clear hst
          go_wp2_with fail
          go_quiet (fail)
          go_wp2_with fail
          go_roundw
          case rel => exact ⟨k + 1, by omega, by go_num, by rw [HST.out], Jk.below (below_drewN (Below.refl _ _) _)⟩
          case measure => simp [intOf]; omega
        · have HST := Lib.hid (show cb (k + 1) = false by rw [hst, fitA_t rfl, hq]; rfl)
          clear hst
          go_wp2_with fail
          go_quiet (fail)
          go_wp2_with fail
          go_roundw
          case rel => exact ⟨k + 1, by omega, by go_num, by rw [HST.out], Jk.below (below_drewN (Below.refl _ _) _)⟩
          case measure => simp [intOf]; omega
    · obtain rfl : k = 16 := by omega
      clear hstep
      obtain ⟨c, hc⟩ : ∃ c, cb 16 = c := ⟨_, rfl⟩
      rw [hc] at C ⊢
      clear hc
      cases c
      all_goals
        go_wp2_with (first
          | (refine wpList_load_row rfl 25 (.tmp 2) rfl w.heap.size rfl 25 (mcC p a x mem) (0, 0) _ Jk.km.blk Tryd.underlying25 rfl (mc_inf hm) ?_)
          | (refine wpList_load_row rfl 30 (.tmp 3) rfl (w.heap.size + 1) rfl 30 (stC s) (0, 0) _ Jk.ks.blk Tryd.underlying30 rfl (st_inf hl) ?_))
        refine (C _).mono ?_
        rintro e w9 ⟨rfl, b9⟩
        have J9 := Jk.below b9
        clear C b9 Jk
        go_wp2_with fail
        go_ret
        exact ⟨rfl, J9.old⟩
set_option maxRecDepth 100000 in
set_option maxHeartbeats 4000000 in
theorem lf_7 (p a x : Int) (mem : List Int) (hm : mem.length = 16) (s : StS) (hl : s.m.length = 16) (w : World) (hK : HK w) (hr : s.r = true) (hak : s.a.k = true) (hav : (s.a.v == a) = false) :
    Calls Tryd.prog 3 #[.agg (mcC p a x mem), stV s] w fun e w' => e = .returned (.bool true) ∧ Below w.heap.size w w' := by
  have hfit : fitS a x mem s = cutB false mem s.m 16 := by
    unfold fitS cutB
    rw [hr, fitA_t hak, hav]
    simp
  have J := MS2.new w p a x mem s
  have W := wakes7_any _ (hK.below J.old (Nat.le_refl _))
  have C := fun V => Fits_any p a x mem hm s hl V
  rw [hfit] at C
  have hstep := fun k => cutB_s false mem s.m k
  have h00 : cutB false mem s.m 0 = false := by simp [cutB]
  unfold stV at C ⊢
  have HR := Lib.hid hr
  have HAK := Lib.hid hak
  clear hr hfit hak
  generalize hcb : cutB false mem s.m = cb at C hstep h00
  clear hcb
  go_enter Tryd.func3, Tryd.ntmps3
  go_wp2_with fail
  refine W.mono ?_
  rintro e w1 ⟨rfl, b1⟩
  have J1 := J.below b1
  clear W b1 J
  obtain ⟨m1, m2⟩ := J1.mc
  obtain ⟨s0, s1, s2, s3, s4⟩ := J1.st
  rw [HR.out] at s0
  rw [HAK.out] at s1
  have H00 := Lib.hid h00
  clear h00
  go_wp2_with fail
  clear m1 m2 s0 s1 s2 s3 s4
  go_loopw [5, 39] (fun c i wr => ∃ k : Nat, k ≤ 16 ∧ i = .int .i64 (k : Int) ∧ c = .bool (cb k) ∧ MS2 w wr p a x mem s) (fun _ i _ => 16 - (intOf i).toNat)
  case atStart => exact ⟨0, by omega, rfl, by rw [H00.out], J1⟩
  case round =>
    obtain ⟨k, hk, rfl, rfl, Jk⟩ := hrel
    obtain ⟨wo, rfl⟩ : ∃ wo : World, wo = wr := ⟨_, rfl⟩
    by_cases hlt : k < 16
    · have hlt' : (k : Int) < 16 := by omega
      obtain ⟨q0, q1⟩ := st_m Jk.ks hl hlt
      have q2 := Jk.word hm hlt
      have hst := hstep k
      have hfn : fitN mem s.m k = fitA (mem.getD k 0) (s.m.getD k ab0) := rfl
      obtain ⟨⟨uk, uv⟩, hu⟩ : ∃ u, s.m.getD k ab0 = u := ⟨_, rfl⟩
      obtain ⟨v, hv⟩ : ∃ v, mem.getD k 0 = v := ⟨_, rfl⟩
      rw [hu] at q0 q1 hfn
      rw [hv] at q2 hfn
      simp only at q0 q1
      rw [hfn] at hst
      obtain ⟨c, hc⟩ : ∃ c, cb k = c := ⟨_, rfl⟩
      rw [hc] at hst ⊢
      have HU : uk = false ∨ (uk = true ∧ (uv == v) = true) ∨ (uk = true ∧ (uv == v) = false) := by cases uk <;> cases (uv == v) <;> simp
      clear hfn hu hv hc
      cases c
      · have HST := Lib.hid (show cb (k + 1) = false by rw [hst]; rfl)
        clear hst HU
        go_wp2_with fail
        go_quiet (fail)
        go_wp2_with fail
        go_roundw
        case rel => exact ⟨k + 1, by omega, by go_num, by rw [HST.out], Jk.below (below_drewN (Below.refl _ _) _)⟩
        case measure => simp [intOf]; omega
      · rcases HU with rfl | ⟨rfl, hq⟩ | ⟨rfl, hq⟩
        · have HST := Lib.hid (show cb (k + 1) = true by rw [hst, fitA_f rfl]; rfl)
          clear hst
          go_wp2_with fail
          go_quiet (fail)
          go_wp2_with fail
          go_roundw
          case rel => exact ⟨k + 1, by omega, by go_num, by rw [HST.out], Jk.below (below_drewN (Below.refl _ _) _)⟩
          case measure => simp [intOf]; omega
        · have HST := Lib.hid (show cb (k + 1) = true by rw [hst, fitA_t rfl, hq]; rfl)
          clear hst
          go_wp2_with fail
          go_quiet (fail)
          go_wp2_with fail
          go_roundw
          case rel => exact ⟨k + 1, by omega, by go_num, by rw [HST.out], Jk.below (below_drewN (Below.refl _ _) _)⟩
          case measure => simp [intOf]; omega
        · have HST := Lib.hid (show cb (k + 1) = false by rw [hst, fitA_t rfl, hq]; rfl)
          clear hst
          go_wp2_with fail
          go_quiet (fail)
          go_wp2_with fail
          go_roundw
          case rel => exact ⟨k + 1, by omega, by go_num, by rw [HST.out], Jk.below (below_drewN (Below.refl _ _) _)⟩
          case measure => simp [intOf]; omega
    · obtain rfl : k = 16 := by omega
      clear hstep
      obtain ⟨c, hc⟩ : ∃ c, cb 16 = c := ⟨_, rfl⟩
      rw [hc] at C ⊢
      clear hc
      cases c
      all_goals
        go_wp2_with (first
          | (refine wpList_load_row rfl 25 (.tmp 2) rfl w.heap.size rfl 25 (mcC p a x mem) (0, 0) _ Jk.km.blk Tryd.underlying25 rfl (mc_inf hm) ?_)
          | (refine wpList_load_row rfl 30 (.tmp 3) rfl (w.heap.size + 1) rfl 30 (stC s) (0, 0) _ Jk.ks.blk Tryd.underlying30 rfl (st_inf hl) ?_))
        refine (C _).mono ?_
        rintro e w9 ⟨rfl, b9⟩
        have J9 := Jk.below b9
        clear C b9 Jk
        go_wp2_with fail
        go_ret
        exact ⟨rfl, J9.old⟩
theorem bitmapFits_any (p a x : Int) (mem : List Int) (hm : mem.length = 16) (s : StS) (hl : s.m.length = 16) (w : World) (hK : HK w) :
    Calls Tryd.prog 3 #[.agg (mcC p a x mem), stV s] w fun e w' => e = .returned (.bool true) ∧ Below w.heap.size w w' := by
  cases hr : s.r
  · exact lf_0 p a x mem hm s hl w hK hr
  · cases hak : s.a.k
    · cases hxk : s.x.k
      · exact lf_1 p a x mem hm s hl w hK hr hak hxk
      · cases hxv : (s.x.v == x)
        · exact lf_3 p a x mem hm s hl w hK hr hak hxk hxv
        · exact lf_2 p a x mem hm s hl w hK hr hak hxk hxv
    · cases hav : (s.a.v == a)
      · exact lf_7 p a x mem hm s hl w hK hr hak hav
      · cases hxk : s.x.k
        · exact lf_4 p a x mem hm s hl w hK hr hak hav hxk
        · cases hxv : (s.x.v == x)
          · exact lf_6 p a x mem hm s hl w hK hr hak hav hxk hxv
          · exact lf_5 p a x mem hm s hl w hK hr hak hav hxk hxv
end Go.Proofs.YtejhamkmfnfmoaaDoor
