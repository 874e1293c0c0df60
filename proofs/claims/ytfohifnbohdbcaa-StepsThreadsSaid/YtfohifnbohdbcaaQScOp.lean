/-
  Schedules that came in, as they are opened; two numbers.
-/
import Derived.Test.YtfohifnbohdbcaaQScLw
import Derived.Test.YtfohifnbohdbcaaQScPt
import Derived.Test.YtfohifnbohdbcaaQScOv
import Derived.Test.YtfohifnbohdbcaaRows
import Derived.WalkKit
import Derived.OpenShut
import Derived.Lib.SmallJoins
import Derived.Deep.Slices
import Derived.Deep.Strs
import Derived.ChangeArms
import Derived.ChangeSlices
import Derived.ChangeSame
namespace Go.Proofs.Ytfohifnbohdbcaa
open Go.RowKit Go.Shelf
set_option linter.unusedVariables false
set_option linter.unusedSimpArgs false
def addR (R : List Rn) (L : List Kw) (id : Int) : List Rn × List Kn × Int := chgS R L (addF R (L.map (·.1)) id)
theorem add_pubR (A : Option Addr) (m c : Nat) (R : List Rn) (A2 : Option Addr) (m2 c2 : Nat) (L : List Kw) (id : Int) (w : World) (h : Sc w w.heap.size A m c R A2 m2 c2 L) :
    Calls Try.prog 11 #[scV A m c A2 m2 c2, .int .i64 id] w fun e w' => ∃ v, e = .returned (.tuple #[v, .int .i64 (addR R L id).2.2]) ∧ ScR w' w.heap.size v (addR R L id).1 (addR R L id).2.1 ∧ Below w.heap.size w w' := add_sc A m c R A2 m2 c2 L id w h
section
variable {L L' : List Kw} (h : L'.map (·.1) = L.map (·.1)) (R : List Rn)
include h
theorem addR_names (id : Int) : addR R L' id = addR R L id := by unfold addR chgS; rw [scE_names h, h]
theorem endR_names (id : Int) : endR R L' id = endR R L id := by unfold endR chgS; rw [scE_names h, h]
theorem forgetR_names (id : Int) : forgetR R L' id = forgetR R L id := by unfold forgetR chgS; rw [scE_names h, h]
end
theorem fndR_no {R : List Rn} {n : Int} (h : (numsR R).contains n = false) : fndR R n = (rn0, false) := by
  unfold fndR
  rw [runF_none h]
theorem same_okT {R R2 : List Rn} {L L2 : List Kw} (h1 : R = R2) (h2 : L.map (·.1) = L2.map (·.1)) : sameS R R2 L L2 = true := by
  unfold sameS
  rw [h1, h2, decide_eq_true rfl, Bool.and_true]
  exact eqR_iff.2 rfl
theorem add_eq {w : World} {B : Nat} {A : Option Addr} {m c : Nat} {R : List Rn} {A2 : Option Addr} {m2 c2 : Nat} {L : List Kw} (h : Sc w B A m c R A2 m2 c2 L) (id : Int) : addW R L id = addR R L id := by
  unfold addW addR chgS
  cases hs : schB R L
  · have e : scE R L = 230 := by unfold scE; rw [hs, if_neg (by simp)]
    rw [if_neg (by simp), e, if_neg (by decide)]
  · have e : scE R L = 0 := by unfold scE; rw [hs, if_pos rfl]
    have f := fit_of h hs
    rw [if_pos rfl, if_pos e]
    unfold addF
    have hp := putG_false numR (⟨id, 0, 0⟩ : Rn) (L := R) f.ok.ur
    rw [show R.map numR = numsR R from rfl, show numR (⟨id, 0, 0⟩ : Rn) = id from rfl] at hp
    cases hb : (decide (id < 1) || decide (20 < id))
    · cases hc : (numsR R).contains id
      · rw [hc, if_neg (by simp)] at hp
        simp only [fndR_no hc, Bool.false_eq_true, ↓reduceIte, hp]
        by_cases h8 : R.length = 8
        · simp only [h8, ↓reduceIte, if_neg (show ¬ (6 : Int) = 0 by decide)]
        · simp only [if_neg h8, ↓reduceIte]
      · simp only [fndR_yes f.ok.ur hc, Bool.false_eq_true, ↓reduceIte, if_neg (show ¬ (5 : Int) = 0 by decide)]
    · simp only [↓reduceIte, if_neg (show ¬ (2 : Int) = 0 by decide)]
theorem forget_eq {w : World} {B : Nat} {A : Option Addr} {m c : Nat} {R : List Rn} {A2 : Option Addr} {m2 c2 : Nat} {L : List Kw} (h : Sc w B A m c R A2 m2 c2 L) (id : Int) : forgetW R L id = forgetR R L id := by
  unfold forgetW forgetR chgS
  cases hs : schB R L
  · have e : scE R L = 230 := by unfold scE; rw [hs, if_neg (by simp)]
    rw [if_neg (by simp), e, if_neg (by decide)]
  · have e : scE R L = 0 := by unfold scE; rw [hs, if_pos rfl]
    have f := fit_of h hs
    rw [if_pos rfl, if_pos e]
    unfold forgetF
    cases hc : (numsR R).contains id
    · simp only [fndR_no hc, Bool.false_eq_true, ↓reduceIte, if_neg (show ¬ (4 : Int) = 0 by decide)]
    · have hd : R.filter (fun y => y.i != id) = delL (lessP (numsR R) id) R := filt_del numR id f.ok.ur hc
      cases hs2 : ((R.getD (lessP (numsR R) id) rn0).s != 2)
      · simp only [fndR_yes f.ok.ur hc, hs2, Bool.false_eq_true, ↓reduceIte, hd]
      · simp only [fndR_yes f.ok.ur hc, hs2, ↓reduceIte, if_neg (show ¬ (2 : Int) = 0 by decide)]
set_option maxRecDepth 100000 in
set_option maxHeartbeats 16000000 in
theorem threads_law (A : Option Addr) (m c : Nat) (R : List Rn) (A2 : Option Addr) (m2 c2 : Nat) (L : List Kw) (id : Int) (w : World) (h : ScW w w.heap.size A m c R A2 m2 c2 L) :
    Calls Try.prog 3 #[scV A m c A2 m2 c2, .int .i64 id] w fun e w' => e = .returned (.bool true) ∧ Below w.heap.size w w' := by
  have k3_0 := Blk.new w (scC A m c A2 m2 c2) 25
  have B0 := (Below.refl w.heap.size w).alloc (Nat.le_refl _) (.cells (scC A m c A2 m2 c2) 25)
  have HWK := Lib.hid (fun (V : World) => wakes13_any V)
  have HO1 := Lib.hid (fun (V : World) (hV : Below w.heap.size w V) => over_sc A m c R A2 m2 c2 L V (h.on hV))
  have HS0 := Lib.hid (fun (ho : overS R L = false) => over_sc0 h ho)
  generalize overS R L = o1 at HO1 HS0
  clear h
  unfold scV at HO1 ⊢
  go_enter Try.func3, Try.ntmps3
  cases o1
  · have HS := Lib.hid (HS0.out rfl)
    clear HS0
    have HCO := Lib.hid (fun (V : World) (hV : Below w.heap.size w V) => lcopied_sc A m c R A2 m2 c2 L V (HS.out.on hV))
    have HRA := Lib.hid (fun (V : World) (hV : Below w.heap.size w V) => radd_sc A m c R A2 m2 c2 L id V (HS.out.on hV))
    have HRE := Lib.hid (fun (V : World) (hV : Below w.heap.size w V) => rend_sc A m c R A2 m2 c2 L id V (HS.out.on hV))
    have HRF := Lib.hid (fun (V : World) (hV : Below w.heap.size w V) => rforget_sc A m c R A2 m2 c2 L id V (HS.out.on hV))
    rw [add_eq HS.out] at HRA
    rw [end_eq HS.out] at HRE
    rw [forget_eq HS.out] at HRF
    obtain ⟨⟨ar, ak, ae⟩, har⟩ : ∃ p, addR R L id = p := ⟨_, rfl⟩
    obtain ⟨⟨br, bk, be⟩, hbr⟩ : ∃ p, endR R L id = p := ⟨_, rfl⟩
    obtain ⟨⟨fr, fk, fe⟩, hfr⟩ : ∃ p, forgetR R L id = p := ⟨_, rfl⟩
    rw [har] at HRA
    rw [hbr] at HRE
    rw [hfr] at HRF
    have HTR := Lib.hid (And.intro har (And.intro hbr hfr))
    clear har hbr hfr
    unfold scV at HCO HRA HRE HRF
    simp only at HRA HRE HRF
    go_wp2_with (first
      | (refine (HWK.out _).mono ?_
         rintro e w1 ⟨rfl, bb⟩
         have k3_1 := k3_0.below bb k3_0.lt
         have B1 := B0.trans (bb.mono B0.size)
         clear bb k3_0 B0
         go_wp2_with (first
           | (refine wpList_load_row rfl 25 (.tmp 2) rfl (w.heap.size) rfl 25 (scC A m c A2 m2 c2) (0, 0) _ k3_1.blk Try.underlying25 rfl (sc_inf _ _ _ _ _ _) ?_
              go_wp2_with (first
                | (refine (HO1.out _ B1).mono ?_
                   rintro e w2 ⟨rfl, bb⟩
                   have k3_2 := k3_1.below bb k3_1.lt
                   have B2 := B1.trans (bb.mono B1.size)
                   clear bb k3_1 B1
                   go_wp2_with (first
                     | (refine wpList_load_row rfl 25 (.tmp 2) rfl (w.heap.size) rfl 25 (scC A m c A2 m2 c2) (0, 0) _ k3_2.blk Try.underlying25 rfl (sc_inf _ _ _ _ _ _) ?_
                        go_wp2_with (first
                          | (refine (HCO.out _ B2).mono ?_
                             rintro e w3 ⟨v, rfl, cv, bb⟩
                             have k3_3 := k3_2.below bb k3_2.lt
                             have B3 := B2.trans (bb.mono B2.size)
                             obtain ⟨A4, m4, c4, D4, n4, d4, L4, rfl, hc4⟩ := cv.cpv
                             have x_3 := hc4.sc
                             have HNM := Lib.hid hc4.nm
                             clear cv hc4
                             unfold scV
                             clear bb k3_2 B2
                             go_wp2_with (first
                               | (refine wpList_store_blk rfl 25 (.tmp 5) (.tmp 23) rfl w3.heap.size (scC none 0 0 none 0 0) (scC A4 m4 c4 D4 n4 d4) 25 rfl rfl (Blk.new _ _ _) rfl (sc_inf _ _ _ _ _ _) (sc_one _ _ _ _ _ _) ?_
                                  intro w4 k5_4 nn
                                  have bb : Below w3.heap.size w3 w4 := ((Below.refl _ w3).alloc (Nat.le_refl _) _).trans (nn.below _ (Nat.le_refl _) (by simp))
                                  have k3_4 := k3_3.below bb k3_3.lt
                                  have x_4 := x_3.on bb
                                  have B4 := B3.trans (bb.mono B3.size)
                                  clear bb k3_3 x_3 B3 nn
                                  go_wp2_with (first
                                    | (refine wpList_load_row rfl 25 (.tmp 5) rfl (w3.heap.size) rfl 25 (scC A4 m4 c4 D4 n4 d4) (0, 0) _ k5_4.blk Try.underlying25 rfl (sc_inf _ _ _ _ _ _) ?_
                                       go_wp2_with (first
                                         | (have CT := add_pubR A4 m4 c4 R D4 n4 d4 L4 id w4 x_4
                                            rw [addR_names HNM.out, HTR.out.1] at CT
                                            unfold scV at CT
                                            simp only at CT
                                            refine CT.mono ?_
                                            rintro e w5 ⟨v, rfl, ⟨A5, m5, c5, D5, n5, d5, L5, rfl, a_5, HN5, _⟩, bb⟩
                                            have k3_5 := k3_4.below bb k3_4.lt
                                            have k5_5 := k5_4.below bb k5_4.lt
                                            have x_5 := x_4.on bb
                                            have B5 := B4.trans (bb.mono B4.size)
                                            unfold scV
                                            clear CT
                                            clear bb k3_4 k5_4 x_4 B4
                                            go_wp2_with (first
                                              | (refine wpList_store_blk rfl 25 (.tmp 6) (.tmp 28) rfl w5.heap.size (scC none 0 0 none 0 0) (scC A5 m5 c5 D5 n5 d5) 25 rfl rfl (Blk.new _ _ _) rfl (sc_inf _ _ _ _ _ _) (sc_one _ _ _ _ _ _) ?_
                                                 intro w6 k6_6 nn
                                                 have bb : Below w5.heap.size w5 w6 := ((Below.refl _ w5).alloc (Nat.le_refl _) _).trans (nn.below _ (Nat.le_refl _) (by simp))
                                                 have k3_6 := k3_5.below bb k3_5.lt
                                                 have k5_6 := k5_5.below bb k5_5.lt
                                                 have x_6 := x_5.on bb
                                                 have a_6 := a_5.on bb
                                                 have B6 := B5.trans (bb.mono B5.size)
                                                 clear bb k3_5 k5_5 x_5 a_5 B5 nn
                                                 go_wp2_with (first
                                                   | (refine wpList_load_row rfl 25 (.tmp 2) rfl (w.heap.size) rfl 25 (scC A m c A2 m2 c2) (0, 0) _ k3_6.blk Try.underlying25 rfl (sc_inf _ _ _ _ _ _) ?_
                                                      go_wp2_with (first
                                                        | (refine (HRA.out _ B6).mono ?_
                                                           rintro e w7 ⟨v, rfl, ⟨A7, m7, c7, D7, n7, d7, L7, rfl, ra_7, HN7⟩, bb⟩
                                                           have k3_7 := k3_6.below bb k3_6.lt
                                                           have k5_7 := k5_6.below bb k5_6.lt
                                                           have k6_7 := k6_6.below bb k6_6.lt
                                                           have x_7 := x_6.on bb
                                                           have a_7 := a_6.on bb
                                                           have B7 := B6.trans (bb.mono B6.size)
                                                           unfold scV
                                                           clear bb k3_6 k5_6 k6_6 x_6 a_6 B6
                                                           go_wp2_with (first
                                                             | (refine wpList_store_blk rfl 25 (.tmp 8) (.tmp 34) rfl w7.heap.size (scC none 0 0 none 0 0) (scC A7 m7 c7 D7 n7 d7) 25 rfl rfl (Blk.new _ _ _) rfl (sc_inf _ _ _ _ _ _) (sc_one _ _ _ _ _ _) ?_
                                                                intro w8 k8_8 nn
                                                                have bb : Below w7.heap.size w7 w8 := ((Below.refl _ w7).alloc (Nat.le_refl _) _).trans (nn.below _ (Nat.le_refl _) (by simp))
                                                                have k3_8 := k3_7.below bb k3_7.lt
                                                                have k5_8 := k5_7.below bb k5_7.lt
                                                                have k6_8 := k6_7.below bb k6_7.lt
                                                                have x_8 := x_7.on bb
                                                                have a_8 := a_7.on bb
                                                                have ra_8 := ra_7.on bb
                                                                have B8 := B7.trans (bb.mono B7.size)
                                                                clear bb k3_7 k5_7 k6_7 x_7 a_7 ra_7 B7 nn
                                                                go_wp2_with (first
                                                                  | (refine wpList_load_row rfl 25 (.tmp 5) rfl (w3.heap.size) rfl 25 (scC A4 m4 c4 D4 n4 d4) (0, 0) _ k5_8.blk Try.underlying25 rfl (sc_inf _ _ _ _ _ _) ?_
                                                                     go_wp2_with (first
                                                                       | (have CT := end_pub A4 m4 c4 R D4 n4 d4 L4 id w8 x_8
                                                                          rw [endR_names HNM.out, HTR.out.2.1] at CT
                                                                          unfold scV at CT
                                                                          simp only at CT
                                                                          refine CT.mono ?_
                                                                          rintro e w9 ⟨v, rfl, ⟨A9, m9, c9, D9, n9, d9, L9, rfl, b_9, HN9, _⟩, bb⟩
                                                                          have k3_9 := k3_8.below bb k3_8.lt
                                                                          have k5_9 := k5_8.below bb k5_8.lt
                                                                          have k6_9 := k6_8.below bb k6_8.lt
                                                                          have k8_9 := k8_8.below bb k8_8.lt
                                                                          have x_9 := x_8.on bb
                                                                          have a_9 := a_8.on bb
                                                                          have ra_9 := ra_8.on bb
                                                                          have B9 := B8.trans (bb.mono B8.size)
                                                                          unfold scV
                                                                          clear CT
                                                                          clear bb k3_8 k5_8 k6_8 k8_8 x_8 a_8 ra_8 B8
                                                                          go_wp2_with (first
                                                                            | (refine wpList_store_blk rfl 25 (.tmp 10) (.tmp 40) rfl w9.heap.size (scC none 0 0 none 0 0) (scC A9 m9 c9 D9 n9 d9) 25 rfl rfl (Blk.new _ _ _) rfl (sc_inf _ _ _ _ _ _) (sc_one _ _ _ _ _ _) ?_
                                                                               intro w10 k10_10 nn
                                                                               have bb : Below w9.heap.size w9 w10 := ((Below.refl _ w9).alloc (Nat.le_refl _) _).trans (nn.below _ (Nat.le_refl _) (by simp))
                                                                               have k3_10 := k3_9.below bb k3_9.lt
                                                                               have k5_10 := k5_9.below bb k5_9.lt
                                                                               have k6_10 := k6_9.below bb k6_9.lt
                                                                               have k8_10 := k8_9.below bb k8_9.lt
                                                                               have x_10 := x_9.on bb
                                                                               have a_10 := a_9.on bb
                                                                               have ra_10 := ra_9.on bb
                                                                               have b_10 := b_9.on bb
                                                                               have B10 := B9.trans (bb.mono B9.size)
                                                                               clear bb k3_9 k5_9 k6_9 k8_9 x_9 a_9 ra_9 b_9 B9 nn
                                                                               go_wp2_with (first
                                                                                 | (refine wpList_load_row rfl 25 (.tmp 2) rfl (w.heap.size) rfl 25 (scC A m c A2 m2 c2) (0, 0) _ k3_10.blk Try.underlying25 rfl (sc_inf _ _ _ _ _ _) ?_
                                                                                    go_wp2_with (first
                                                                                      | (refine (HRE.out _ B10).mono ?_
                                                                                         rintro e w11 ⟨v, rfl, ⟨A11, m11, c11, D11, n11, d11, L11, rfl, rb_11, HN11⟩, bb⟩
                                                                                         have k3_11 := k3_10.below bb k3_10.lt
                                                                                         have k5_11 := k5_10.below bb k5_10.lt
                                                                                         have k6_11 := k6_10.below bb k6_10.lt
                                                                                         have k8_11 := k8_10.below bb k8_10.lt
                                                                                         have k10_11 := k10_10.below bb k10_10.lt
                                                                                         have x_11 := x_10.on bb
                                                                                         have a_11 := a_10.on bb
                                                                                         have ra_11 := ra_10.on bb
                                                                                         have b_11 := b_10.on bb
                                                                                         have B11 := B10.trans (bb.mono B10.size)
                                                                                         unfold scV
                                                                                         clear bb k3_10 k5_10 k6_10 k8_10 k10_10 x_10 a_10 ra_10 b_10 B10
                                                                                         go_wp2_with (first
                                                                                           | (refine wpList_store_blk rfl 25 (.tmp 12) (.tmp 46) rfl w11.heap.size (scC none 0 0 none 0 0) (scC A11 m11 c11 D11 n11 d11) 25 rfl rfl (Blk.new _ _ _) rfl (sc_inf _ _ _ _ _ _) (sc_one _ _ _ _ _ _) ?_
                                                                                              intro w12 k12_12 nn
                                                                                              have bb : Below w11.heap.size w11 w12 := ((Below.refl _ w11).alloc (Nat.le_refl _) _).trans (nn.below _ (Nat.le_refl _) (by simp))
                                                                                              have k3_12 := k3_11.below bb k3_11.lt
                                                                                              have k5_12 := k5_11.below bb k5_11.lt
                                                                                              have k6_12 := k6_11.below bb k6_11.lt
                                                                                              have k8_12 := k8_11.below bb k8_11.lt
                                                                                              have k10_12 := k10_11.below bb k10_11.lt
                                                                                              have x_12 := x_11.on bb
                                                                                              have a_12 := a_11.on bb
                                                                                              have ra_12 := ra_11.on bb
                                                                                              have b_12 := b_11.on bb
                                                                                              have rb_12 := rb_11.on bb
                                                                                              have B12 := B11.trans (bb.mono B11.size)
                                                                                              clear bb k3_11 k5_11 k6_11 k8_11 k10_11 x_11 a_11 ra_11 b_11 rb_11 B11 nn
                                                                                              go_wp2_with (first
                                                                                                | (refine wpList_load_row rfl 25 (.tmp 5) rfl (w3.heap.size) rfl 25 (scC A4 m4 c4 D4 n4 d4) (0, 0) _ k5_12.blk Try.underlying25 rfl (sc_inf _ _ _ _ _ _) ?_
                                                                                                   go_wp2_with (first
                                                                                                     | (have CT := forget_pub A4 m4 c4 R D4 n4 d4 L4 id w12 x_12
                                                                                                        rw [forgetR_names HNM.out, HTR.out.2.2] at CT
                                                                                                        unfold scV at CT
                                                                                                        simp only at CT
                                                                                                        refine CT.mono ?_
                                                                                                        rintro e w13 ⟨v, rfl, ⟨A13, m13, c13, D13, n13, d13, L13, rfl, f_13, HN13, _⟩, bb⟩
                                                                                                        have k3_13 := k3_12.below bb k3_12.lt
                                                                                                        have k5_13 := k5_12.below bb k5_12.lt
                                                                                                        have k6_13 := k6_12.below bb k6_12.lt
                                                                                                        have k8_13 := k8_12.below bb k8_12.lt
                                                                                                        have k10_13 := k10_12.below bb k10_12.lt
                                                                                                        have k12_13 := k12_12.below bb k12_12.lt
                                                                                                        have x_13 := x_12.on bb
                                                                                                        have a_13 := a_12.on bb
                                                                                                        have ra_13 := ra_12.on bb
                                                                                                        have b_13 := b_12.on bb
                                                                                                        have rb_13 := rb_12.on bb
                                                                                                        have B13 := B12.trans (bb.mono B12.size)
                                                                                                        unfold scV
                                                                                                        clear CT
                                                                                                        clear bb k3_12 k5_12 k6_12 k8_12 k10_12 k12_12 x_12 a_12 ra_12 b_12 rb_12 B12
                                                                                                        go_wp2_with (first
                                                                                                          | (refine wpList_store_blk rfl 25 (.tmp 14) (.tmp 52) rfl w13.heap.size (scC none 0 0 none 0 0) (scC A13 m13 c13 D13 n13 d13) 25 rfl rfl (Blk.new _ _ _) rfl (sc_inf _ _ _ _ _ _) (sc_one _ _ _ _ _ _) ?_
                                                                                                             intro w14 k14_14 nn
                                                                                                             have bb : Below w13.heap.size w13 w14 := ((Below.refl _ w13).alloc (Nat.le_refl _) _).trans (nn.below _ (Nat.le_refl _) (by simp))
                                                                                                             have k3_14 := k3_13.below bb k3_13.lt
                                                                                                             have k5_14 := k5_13.below bb k5_13.lt
                                                                                                             have k6_14 := k6_13.below bb k6_13.lt
                                                                                                             have k8_14 := k8_13.below bb k8_13.lt
                                                                                                             have k10_14 := k10_13.below bb k10_13.lt
                                                                                                             have k12_14 := k12_13.below bb k12_13.lt
                                                                                                             have x_14 := x_13.on bb
                                                                                                             have a_14 := a_13.on bb
                                                                                                             have ra_14 := ra_13.on bb
                                                                                                             have b_14 := b_13.on bb
                                                                                                             have rb_14 := rb_13.on bb
                                                                                                             have f_14 := f_13.on bb
                                                                                                             have B14 := B13.trans (bb.mono B13.size)
                                                                                                             clear bb k3_13 k5_13 k6_13 k8_13 k10_13 k12_13 x_13 a_13 ra_13 b_13 rb_13 f_13 B13 nn
                                                                                                             go_wp2_with (first
                                                                                                               | (refine wpList_load_row rfl 25 (.tmp 2) rfl (w.heap.size) rfl 25 (scC A m c A2 m2 c2) (0, 0) _ k3_14.blk Try.underlying25 rfl (sc_inf _ _ _ _ _ _) ?_
                                                                                                                  go_wp2_with (first
                                                                                                                    | (refine (HRF.out _ B14).mono ?_
                                                                                                                       rintro e w15 ⟨v, rfl, ⟨A15, m15, c15, D15, n15, d15, L15, rfl, rf_15, HN15⟩, bb⟩
                                                                                                                       have k3_15 := k3_14.below bb k3_14.lt
                                                                                                                       have k5_15 := k5_14.below bb k5_14.lt
                                                                                                                       have k6_15 := k6_14.below bb k6_14.lt
                                                                                                                       have k8_15 := k8_14.below bb k8_14.lt
                                                                                                                       have k10_15 := k10_14.below bb k10_14.lt
                                                                                                                       have k12_15 := k12_14.below bb k12_14.lt
                                                                                                                       have k14_15 := k14_14.below bb k14_14.lt
                                                                                                                       have x_15 := x_14.on bb
                                                                                                                       have a_15 := a_14.on bb
                                                                                                                       have ra_15 := ra_14.on bb
                                                                                                                       have b_15 := b_14.on bb
                                                                                                                       have rb_15 := rb_14.on bb
                                                                                                                       have f_15 := f_14.on bb
                                                                                                                       have B15 := B14.trans (bb.mono B14.size)
                                                                                                                       unfold scV
                                                                                                                       clear bb k3_14 k5_14 k6_14 k8_14 k10_14 k12_14 k14_14 x_14 a_14 ra_14 b_14 rb_14 f_14 B14
                                                                                                                       go_wp2_with (first
                                                                                                                         | (refine wpList_store_blk rfl 25 (.tmp 16) (.tmp 58) rfl w15.heap.size (scC none 0 0 none 0 0) (scC A15 m15 c15 D15 n15 d15) 25 rfl rfl (Blk.new _ _ _) rfl (sc_inf _ _ _ _ _ _) (sc_one _ _ _ _ _ _) ?_
                                                                                                                            intro w16 k16_16 nn
                                                                                                                            have bb : Below w15.heap.size w15 w16 := ((Below.refl _ w15).alloc (Nat.le_refl _) _).trans (nn.below _ (Nat.le_refl _) (by simp))
                                                                                                                            have k3_16 := k3_15.below bb k3_15.lt
                                                                                                                            have k5_16 := k5_15.below bb k5_15.lt
                                                                                                                            have k6_16 := k6_15.below bb k6_15.lt
                                                                                                                            have k8_16 := k8_15.below bb k8_15.lt
                                                                                                                            have k10_16 := k10_15.below bb k10_15.lt
                                                                                                                            have k12_16 := k12_15.below bb k12_15.lt
                                                                                                                            have k14_16 := k14_15.below bb k14_15.lt
                                                                                                                            have x_16 := x_15.on bb
                                                                                                                            have a_16 := a_15.on bb
                                                                                                                            have ra_16 := ra_15.on bb
                                                                                                                            have b_16 := b_15.on bb
                                                                                                                            have rb_16 := rb_15.on bb
                                                                                                                            have f_16 := f_15.on bb
                                                                                                                            have rf_16 := rf_15.on bb
                                                                                                                            have B16 := B15.trans (bb.mono B15.size)
                                                                                                                            clear bb k3_15 k5_15 k6_15 k8_15 k10_15 k12_15 k14_15 x_15 a_15 ra_15 b_15 rb_15 f_15 rf_15 B15 nn
                                                                                                                            go_wp2_with (first
                                                                                                                              | (refine wpListG_load (by rfl) 25 (.tmp 6) rfl (w5.heap.size) rfl 25 (scC A5 m5 c5 D5 n5 d5) _ k6_16 Try.underlying25 rfl (sc_inf _ _ _ _ _ _) ?_
                                                                                                                                 go_wp2_with (first
                                                                                                                                   | (refine wpListG_load (by rfl) 25 (.tmp 8) rfl (w7.heap.size) rfl 25 (scC A7 m7 c7 D7 n7 d7) _ k8_16 Try.underlying25 rfl (sc_inf _ _ _ _ _ _) ?_
                                                                                                                                      go_wp2_with (first
                                                                                                                                        | (have CT := rsame_sc A5 m5 c5 ar D5 n5 d5 L5 A7 m7 c7 ar D7 n7 d7 L7 w16 a_16 ra_16
                                                                                                                                           rw [same_okT rfl (HN5.trans HN7.symm)] at CT
                                                                                                                                           unfold scV at CT
                                                                                                                                           refine CT.mono ?_
                                                                                                                                           rintro e w17 ⟨rfl, bb⟩
                                                                                                                                           have k3_17 := k3_16.below bb k3_16.lt
                                                                                                                                           have k5_17 := k5_16.below bb k5_16.lt
                                                                                                                                           have k6_17 := k6_16.below bb k6_16.lt
                                                                                                                                           have k8_17 := k8_16.below bb k8_16.lt
                                                                                                                                           have k10_17 := k10_16.below bb k10_16.lt
                                                                                                                                           have k12_17 := k12_16.below bb k12_16.lt
                                                                                                                                           have k14_17 := k14_16.below bb k14_16.lt
                                                                                                                                           have k16_17 := k16_16.below bb k16_16.lt
                                                                                                                                           have x_17 := x_16.on bb
                                                                                                                                           have a_17 := a_16.on bb
                                                                                                                                           have ra_17 := ra_16.on bb
                                                                                                                                           have b_17 := b_16.on bb
                                                                                                                                           have rb_17 := rb_16.on bb
                                                                                                                                           have f_17 := f_16.on bb
                                                                                                                                           have rf_17 := rf_16.on bb
                                                                                                                                           have B17 := B16.trans (bb.mono B16.size)
                                                                                                                                           clear CT
                                                                                                                                           clear bb k3_16 k5_16 k6_16 k8_16 k10_16 k12_16 k14_16 k16_16 x_16 a_16 ra_16 b_16 rb_16 f_16 rf_16 B16
                                                                                                                                           go_wp2_with (first
                                                                                                                                             | (refine wpListG_load (by rfl) 25 (.tmp 10) rfl (w9.heap.size) rfl 25 (scC A9 m9 c9 D9 n9 d9) _ k10_17 Try.underlying25 rfl (sc_inf _ _ _ _ _ _) ?_
                                                                                                                                                go_wp2_with (first
                                                                                                                                                  | (refine wpListG_load (by rfl) 25 (.tmp 12) rfl (w11.heap.size) rfl 25 (scC A11 m11 c11 D11 n11 d11) _ k12_17 Try.underlying25 rfl (sc_inf _ _ _ _ _ _) ?_
                                                                                                                                                     go_wp2_with (first
                                                                                                                                                       | (have CT := rsame_sc A9 m9 c9 br D9 n9 d9 L9 A11 m11 c11 br D11 n11 d11 L11 w17 b_17 rb_17
                                                                                                                                                          rw [same_okT rfl (HN9.trans HN11.symm)] at CT
                                                                                                                                                          unfold scV at CT
                                                                                                                                                          refine CT.mono ?_
                                                                                                                                                          rintro e w18 ⟨rfl, bb⟩
                                                                                                                                                          have k3_18 := k3_17.below bb k3_17.lt
                                                                                                                                                          have k5_18 := k5_17.below bb k5_17.lt
                                                                                                                                                          have k6_18 := k6_17.below bb k6_17.lt
                                                                                                                                                          have k8_18 := k8_17.below bb k8_17.lt
                                                                                                                                                          have k10_18 := k10_17.below bb k10_17.lt
                                                                                                                                                          have k12_18 := k12_17.below bb k12_17.lt
                                                                                                                                                          have k14_18 := k14_17.below bb k14_17.lt
                                                                                                                                                          have k16_18 := k16_17.below bb k16_17.lt
                                                                                                                                                          have x_18 := x_17.on bb
                                                                                                                                                          have a_18 := a_17.on bb
                                                                                                                                                          have ra_18 := ra_17.on bb
                                                                                                                                                          have b_18 := b_17.on bb
                                                                                                                                                          have rb_18 := rb_17.on bb
                                                                                                                                                          have f_18 := f_17.on bb
                                                                                                                                                          have rf_18 := rf_17.on bb
                                                                                                                                                          have B18 := B17.trans (bb.mono B17.size)
                                                                                                                                                          clear CT
                                                                                                                                                          clear bb k3_17 k5_17 k6_17 k8_17 k10_17 k12_17 k14_17 k16_17 x_17 a_17 ra_17 b_17 rb_17 f_17 rf_17 B17
                                                                                                                                                          go_wp2_with (first
                                                                                                                                                            | (refine wpListG_load (by rfl) 25 (.tmp 14) rfl (w13.heap.size) rfl 25 (scC A13 m13 c13 D13 n13 d13) _ k14_18 Try.underlying25 rfl (sc_inf _ _ _ _ _ _) ?_
                                                                                                                                                               go_wp2_with (first
                                                                                                                                                                 | (refine wpListG_load (by rfl) 25 (.tmp 16) rfl (w15.heap.size) rfl 25 (scC A15 m15 c15 D15 n15 d15) _ k16_18 Try.underlying25 rfl (sc_inf _ _ _ _ _ _) ?_
                                                                                                                                                                    go_wp2_with (first
                                                                                                                                                                      | (have CT := rsame_sc A13 m13 c13 fr D13 n13 d13 L13 A15 m15 c15 fr D15 n15 d15 L15 w18 f_18 rf_18
                                                                                                                                                                         rw [same_okT rfl (HN13.trans HN15.symm)] at CT
                                                                                                                                                                         unfold scV at CT
                                                                                                                                                                         refine CT.mono ?_
                                                                                                                                                                         rintro e w19 ⟨rfl, bb⟩
                                                                                                                                                                         have k3_19 := k3_18.below bb k3_18.lt
                                                                                                                                                                         have k5_19 := k5_18.below bb k5_18.lt
                                                                                                                                                                         have k6_19 := k6_18.below bb k6_18.lt
                                                                                                                                                                         have k8_19 := k8_18.below bb k8_18.lt
                                                                                                                                                                         have k10_19 := k10_18.below bb k10_18.lt
                                                                                                                                                                         have k12_19 := k12_18.below bb k12_18.lt
                                                                                                                                                                         have k14_19 := k14_18.below bb k14_18.lt
                                                                                                                                                                         have k16_19 := k16_18.below bb k16_18.lt
                                                                                                                                                                         have x_19 := x_18.on bb
                                                                                                                                                                         have a_19 := a_18.on bb
                                                                                                                                                                         have ra_19 := ra_18.on bb
                                                                                                                                                                         have b_19 := b_18.on bb
                                                                                                                                                                         have rb_19 := rb_18.on bb
                                                                                                                                                                         have f_19 := f_18.on bb
                                                                                                                                                                         have rf_19 := rf_18.on bb
                                                                                                                                                                         have B19 := B18.trans (bb.mono B18.size)
                                                                                                                                                                         clear CT
                                                                                                                                                                         clear bb k3_18 k5_18 k6_18 k8_18 k10_18 k12_18 k14_18 k16_18 x_18 a_18 ra_18 b_18 rb_18 f_18 rf_18 B18
                                                                                                                                                                         go_wp2_with (first
                                                                                                                                                                           | (refine wpListG_load (by rfl) 25 (.tmp 5) rfl (w3.heap.size) rfl 25 (scC A4 m4 c4 D4 n4 d4) _ k5_19 Try.underlying25 rfl (sc_inf _ _ _ _ _ _) ?_
                                                                                                                                                                              go_wp2_with (first
                                                                                                                                                                                | (refine wpListG_load (by rfl) 25 (.tmp 2) rfl (w.heap.size) rfl 25 (scC A m c A2 m2 c2) _ k3_19 Try.underlying25 rfl (sc_inf _ _ _ _ _ _) ?_
                                                                                                                                                                                   go_wp2_with (first
                                                                                                                                                                                     | (have CT := rsame_sc A4 m4 c4 R D4 n4 d4 L4 A m c R A2 m2 c2 L w19 x_19 (HS.out.on B19)
                                                                                                                                                                                        rw [same_okT rfl HNM.out] at CT
                                                                                                                                                                                        unfold scV at CT
                                                                                                                                                                                        refine CT.mono ?_
                                                                                                                                                                                        rintro e w20 ⟨rfl, bb⟩
                                                                                                                                                                                        have k3_20 := k3_19.below bb k3_19.lt
                                                                                                                                                                                        have k5_20 := k5_19.below bb k5_19.lt
                                                                                                                                                                                        have k6_20 := k6_19.below bb k6_19.lt
                                                                                                                                                                                        have k8_20 := k8_19.below bb k8_19.lt
                                                                                                                                                                                        have k10_20 := k10_19.below bb k10_19.lt
                                                                                                                                                                                        have k12_20 := k12_19.below bb k12_19.lt
                                                                                                                                                                                        have k14_20 := k14_19.below bb k14_19.lt
                                                                                                                                                                                        have k16_20 := k16_19.below bb k16_19.lt
                                                                                                                                                                                        have x_20 := x_19.on bb
                                                                                                                                                                                        have a_20 := a_19.on bb
                                                                                                                                                                                        have ra_20 := ra_19.on bb
                                                                                                                                                                                        have b_20 := b_19.on bb
                                                                                                                                                                                        have rb_20 := rb_19.on bb
                                                                                                                                                                                        have f_20 := f_19.on bb
                                                                                                                                                                                        have rf_20 := rf_19.on bb
                                                                                                                                                                                        have B20 := B19.trans (bb.mono B19.size)
                                                                                                                                                                                        clear CT
                                                                                                                                                                                        clear bb k3_19 k5_19 k6_19 k8_19 k10_19 k12_19 k14_19 k16_19 x_19 a_19 ra_19 b_19 rb_19 f_19 rf_19 B19))))))))))))))))))))))))))))))))))))))))))))))))))))))))))))))))))))))))
    go_ret
    exact ⟨rfl, B20⟩
  · go_wp2_with (first
      | (refine (HWK.out _).mono ?_
         rintro e w1 ⟨rfl, bb⟩
         have k3_1 := k3_0.below bb k3_0.lt
         have B1 := B0.trans (bb.mono B0.size)
         clear bb k3_0 B0
         go_wp2_with (first
           | (refine wpList_load_row rfl 25 (.tmp 2) rfl (w.heap.size) rfl 25 (scC A m c A2 m2 c2) (0, 0) _ k3_1.blk Try.underlying25 rfl (sc_inf _ _ _ _ _ _) ?_
              go_wp2_with (first
                | (refine (HO1.out _ B1).mono ?_
                   rintro e w2 ⟨rfl, bb⟩
                   have k3_2 := k3_1.below bb k3_1.lt
                   have B2 := B1.trans (bb.mono B1.size)
                   clear bb k3_1 B1))))))
    go_ret
    exact ⟨rfl, B2⟩
end Go.Proofs.Ytfohifnbohdbcaa
namespace Go.Proofs.Ytfohifnbohdbcaa
open Go.RowKit Go.Shelf Go.ChangeShapes Go.WideShapes
set_option linter.unusedVariables false
set_option linter.unusedSimpArgs false
section
variable {H : Type} {enc : TypeId × Value → H} {w : World} {base : Nat} {spare : Nat → Bool} {held : Bool} {fuel : Nat} {x : DataW H × List MemPlace}
theorem ints_ofS {v : Value} (h : DataW.trod enc Try.prog w base spare held fuel 40 [v] = some x) : ∃ a l c zs, v = .slice a l c ∧ Ri7 w w.heap.size a zs ∧ l = zs.length ∧ l ≤ c ∧ c ≤ maxLen := by
  rcases open_ints Try.underlying40 Try.underlying3 (by kernel_rfl) h with ⟨hcs, _⟩ | ⟨p, l', c', zs, hcs, _, hl, hm, hz, _, hcell, hwz⟩
  · simp at hcs
    exact ⟨none, 0, 0, [], hcs, fun k hk => absurd hk (by simp), rfl, by omega, by simp [maxLen]⟩
  · simp at hcs
    have hlz : l' ≤ zs.length := by rw [hz]; split <;> omega
    refine ⟨some p, l', c', zs.take l', hcs, fun k hk => ?_, by rw [List.length_take]; omega, hl, hm⟩
    rw [List.length_take] at hk
    obtain ⟨e, hb, h⟩ := add_none (hcell k (by omega)) ⟨_, hcell 0 (by omega)⟩
    refine ⟨p.block, p.off, congrArg some e, hb, h.trans ?_⟩
    simp [List.getD, show k < l' by omega]
set_option maxRecDepth 100000 in
theorem runs_of {v : Value} (h : DataW.trod enc Try.prog w base spare held fuel 22 [v] = some x) : ∃ a l c L, v = .slice a l c ∧ RsR w w.heap.size a L ∧ l = L.length ∧ l ≤ maxLen := by
  rcases Go.Deep.open_slice Try.underlying22 h with ⟨hcs, _⟩ | ⟨p, l, c', m, n, D, Pl, hcs, _, hl, hm, hmm, _, hel⟩
  · simp at hcs
    exact ⟨none, 0, 0, [], hcs, fun k hk => absurd hk (by simp), rfl, by simp [maxLen]⟩
  · simp at hcs
    have hlm : l ≤ m := by rw [hmm]; split <;> omega
    have hc4 : Try.prog.cellsOf 52 = 3 := by kernel_rfl
    have hci : Try.prog.cellsOf 3 = 1 := by kernel_rfl
    rw [hc4] at hel
    have each : ∀ i, i < l → ∃ q : Rn, (∀ j v, (rnC q).toList[j]? = some v → w.cell? ((p.add (i * 3)).add j) = some v) := by
      intro i hi
      obtain ⟨cs', h1, h2⟩ := hel i (by omega)
      obtain ⟨_, hlen, hcell⟩ := World.cells?_some h1
      obtain ⟨y0, y1, y2, n', _, _, t0, t1, t2⟩ := Go.Deep.trod_struct3 Try.underlying52 h2
      match cs', hlen with
      | [v0, v1, v2], _ =>
        simp [hci] at t0 t1 t2
        obtain ⟨q0, e0, _, f0⟩ := DataW.trod_int Try.underlying3 t0
        obtain ⟨q1, e1, _, f1⟩ := DataW.trod_int Try.underlying3 t1
        obtain ⟨q2, e2, _, f2⟩ := DataW.trod_int Try.underlying3 t2
        simp only [List.cons.injEq, and_true] at e0 e1 e2
        subst e0 e1 e2
        refine ⟨⟨q0, q1, q2⟩, fun j v hv => ?_⟩
        have hj : j < 3 := by
          rcases Nat.lt_or_ge j 3 with h | h
          · exact h
          · rw [List.getElem?_eq_none (by rw [Array.length_toList, rn_size]; exact h)] at hv; cases hv
        have := hcell j (by omega)
        rw [this]
        exact hv
    haveI : Inhabited Rn := ⟨rn0⟩
    obtain ⟨q, hq⟩ := Go.Deep.choose_lt each
    refine ⟨some p, l, c', (List.range l).map q, hcs, fun k hk => ?_, by simp, by omega⟩
    have hkl : k < l := by simpa using hk
    have e0 : ((List.range l).map q).getD k rn0 = q k := by simp [List.getD, hkl]
    rw [e0]
    have z : ∃ v0, w.cell? (p.add 0) = some v0 := ⟨_, by
      have := (hq 0 (by omega)) 0 (.int .i64 (q 0).i) rfl
      rw [Go.Deep.add_add] at this
      simpa using this⟩
    have a0 := (hq k hkl) 0 (.int .i64 (q k).i) rfl
    rw [Go.Deep.add_add] at a0
    obtain ⟨ea, hb, _⟩ := add_none a0 z
    refine ⟨p.block, p.off, congrArg some ea, hb, fun j v hv => ?_⟩
    have := (hq k hkl) j v hv
    rw [Go.Deep.add_add] at this
    have h3 := (add_none this z).2.2
    rwa [← Nat.add_assoc] at h3
set_option maxRecDepth 100000 in
theorem locks_of {v : Value} (h : DataW.trod enc Try.prog w base spare held fuel 23 [v] = some x) : ∃ a l c L, v = .slice a l c ∧ RsK w w.heap.size a L ∧ (∀ y ∈ L, Ri7 w w.heap.size y.2.1 y.1.q ∧ y.1.q.length ≤ y.2.2) ∧ l = L.length ∧ l ≤ maxLen := by
  rcases Go.Deep.open_slice Try.underlying23 h with ⟨hcs, _⟩ | ⟨p, l, c', m, n, D, Pl, hcs, _, hl, hm, hmm, _, hel⟩
  · simp at hcs
    exact ⟨none, 0, 0, [], hcs, fun k hk => absurd hk (by simp), fun y hy => (by cases hy), rfl, by simp [maxLen]⟩
  · simp at hcs
    have hlm : l ≤ m := by rw [hmm]; split <;> omega
    have hc4 : Try.prog.cellsOf 48 = 3 := by kernel_rfl
    have hci : Try.prog.cellsOf 3 = 1 := by kernel_rfl
    have hcs' : Try.prog.cellsOf 40 = 1 := by kernel_rfl
    rw [hc4] at hel
    have each : ∀ i, i < l → ∃ q : Kw, (∀ j v, (kwC q).toList[j]? = some v → w.cell? ((p.add (i * 3)).add j) = some v) ∧ (Ri7 w w.heap.size q.2.1 q.1.q ∧ q.1.q.length ≤ q.2.2) := by
      intro i hi
      obtain ⟨cs', h1, h2⟩ := hel i (by omega)
      obtain ⟨_, hlen, hcell⟩ := World.cells?_some h1
      obtain ⟨y0, y1, y2, n', _, _, t0, t1, t2⟩ := Go.Deep.trod_struct3 Try.underlying48 h2
      match cs', hlen with
      | [v0, v1, v2], _ =>
        simp [hci] at t0 t1
        simp [hcs'] at t2
        obtain ⟨q0, e0, _, f0⟩ := DataW.trod_int Try.underlying3 t0
        obtain ⟨q1, e1, _, f1⟩ := DataW.trod_int Try.underlying3 t1
        obtain ⟨pa, pl, pc, g, e2, hr, hlg, hle, _⟩ := ints_ofS t2
        simp only [List.cons.injEq, and_true] at e0 e1
        subst e0 e1 e2 hlg
        refine ⟨(⟨q0, q1, g⟩, (pa, pc)), fun j v hv => ?_, hr, hle⟩
        have hj : j < 3 := by
          rcases Nat.lt_or_ge j 3 with h | h
          · exact h
          · rw [List.getElem?_eq_none (by rw [Array.length_toList, kw_size]; exact h)] at hv; cases hv
        have := hcell j (by omega)
        rw [this]
        exact hv
    haveI : Inhabited Kw := ⟨kw0⟩
    obtain ⟨q, hq⟩ := Go.Deep.choose_lt each
    refine ⟨some p, l, c', (List.range l).map q, hcs, fun k hk => ?_, fun y hy => ?_, by simp, by omega⟩
    · have hkl : k < l := by simpa using hk
      have e0 : ((List.range l).map q).getD k kw0 = q k := by simp [List.getD, hkl]
      rw [e0]
      have z : ∃ v0, w.cell? (p.add 0) = some v0 := ⟨_, by
        have := (hq 0 (by omega)).1 0 (.int .i64 (q 0).1.n) rfl
        rw [Go.Deep.add_add] at this
        simpa using this⟩
      have a0 := (hq k hkl).1 0 (.int .i64 (q k).1.n) rfl
      rw [Go.Deep.add_add] at a0
      obtain ⟨ea, hb, _⟩ := add_none a0 z
      refine ⟨p.block, p.off, congrArg some ea, hb, fun j v hv => ?_⟩
      have := (hq k hkl).1 j v hv
      rw [Go.Deep.add_add] at this
      have h3 := (add_none this z).2.2
      rwa [← Nat.add_assoc] at h3
    · obtain ⟨k, hk, rfl⟩ := List.mem_map.1 hy
      exact (hq k (by simpa using hk)).2
end
section
variable {H : Type} {enc : TypeId × Value → H} {w : World} {base : Nat} {spare : Nat → Bool} {held : Bool}
set_option maxRecDepth 100000 in
theorem sched_of {cs : Array Value} {d : DataW H} {p : List MemPlace} (hz : cs.size = Try.prog.cellsOf 25) (h : DataW.Trod enc Try.prog w base spare held 25 (.agg cs) d p) :
    ∃ A m c R A2 m2 c2 L, cs = scC A m c A2 m2 c2 ∧ ScW w w.heap.size A m c R A2 m2 c2 L := by
  obtain ⟨fuel, hf⟩ := h
  obtain ⟨y0, y1, n, _, hl, h0, h1⟩ := Go.ChangeShapes.trod_struct2 Try.underlying25 hf
  have hc2 : Try.prog.cellsOf 25 = 2 := by kernel_rfl
  have hcs : Try.prog.cellsOf 22 = 1 := by kernel_rfl
  have hcs' : Try.prog.cellsOf 23 = 1 := by kernel_rfl
  rw [hc2] at hz
  obtain ⟨v, u, rfl⟩ : ∃ v u, cs = #[v, u] := by
    obtain ⟨l⟩ := cs
    match l, hz with
    | [v, u], _ => exact ⟨v, u, rfl⟩
  simp [Value.cells, hcs] at h0
  simp [Value.cells, hcs'] at h1
  obtain ⟨a, l, c, L, rfl, r1, r2, r3⟩ := runs_of h0
  obtain ⟨a', l', c', K, rfl, s1, s2, s3, s4⟩ := locks_of h1
  exact ⟨a, l, c, L, a', l', c', K, rfl, r1, s1, s2, r2, s3, s4⟩
end
end Go.Proofs.Ytfohifnbohdbcaa
