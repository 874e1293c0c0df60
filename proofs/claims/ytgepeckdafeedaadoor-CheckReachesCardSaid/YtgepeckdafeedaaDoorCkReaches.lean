/-
  CheckReaches, walked: what is reached, and in how many steps at most.
-/
import Derived.Test.YtgepeckdafeedaaDoorCkWake
import Derived.Test.YtgepeckdafeedaaDoorCkRCheck
import Derived.Test.YtgepeckdafeedaaDoorCkRMost
import Derived.Test.YtgepeckdafeedaaDoorRowsI
namespace Go.Proofs.YtgepeckdafeedaaDoor
open Go.RowKit

set_option maxRecDepth 100000 in
set_option maxHeartbeats 8000000 in
theorem checkReaches_any (A : Option Addr) (n cap : Nat) (R : Nat → RowJ) (w : World) (hK : Kinds w) (hR : RowsI w w.heap.size A n R) (hn : n ≤ 9223372036854775807) :
    Calls Tryd.prog 4 #[.slice A n cap] w fun e w' => e = .returned (.bool true) ∧ Below w.heap.size w w' := by
  go_enter Tryd.func4, Tryd.ntmps4
  go_wp2_with fail
  refine (wakes4_any w hK).mono ?_
  rintro e w1 ⟨rfl, b1⟩
  go_wp2_with fail
  go_loopw [16] (fun i wr => ∃ k : Nat, k ≤ n ∧ i = .int .i64 k ∧ Below w.heap.size w wr) (fun i _ => n - (intOf i).toNat)
  case atStart => exact ⟨0, Nat.zero_le _, rfl, b1⟩
  case round =>
    obtain ⟨k, hk, rfl, hb⟩ := hrel
    have R1 := hR.below hb
    have K1 := hK.below hb hK.pos
    obtain ⟨wo, rfl⟩ : ∃ wo : World, wo = wr := ⟨_, rfl⟩
    by_cases hlt : k < n
    · have hlt' : (k : Int) < n := by omega
      obtain ⟨b, off, rfl, _, hc, hr, h2, h3⟩ := R1 k hlt
      obtain ⟨⟨a, l, c, f⟩, hq⟩ : ∃ q : RowJ, R k = q := ⟨_, rfl⟩
      rw [hq] at hc hr h2 h3
      simp only at hc hr h2 h3
      clear hq R1
      by_cases h8 : k = 8
      · subst h8
        go_wp2_with fail
        go_ret
        exact ⟨rfl, hb⟩
      · have h8' : ((k : Int) == 8) = false := by simp; omega
        have r0 := hr.more hb.size
        clear hr
        obtain ⟨m, hm⟩ : ∃ m, m = min l 65 := ⟨_, rfl⟩
        have HF := Lib.hid (fun w (hA : Ri w w.heap.size a l f) => few4_any a l c f w hA h2 m hm)
        have HO := Lib.hid (fun j (hj : j < m) => r0.ok j (by omega))
        have hm65 : m ≤ 65 := by omega
        clear hm
        go_wp2_with fail
        refine (HF.out _ r0).mono ?_
        rintro e w2 ⟨A2, c2, rfl, o2, b2⟩
        obtain ⟨p2, hc2⟩ := ri_of_own o2 HO.out
        have B2 := hb.trans (b2.mono hb.size)
        have K2 := K1.below b2 K1.pos
        clear r0 hb K1 b2 o2 HF
        obtain ⟨⟨r1, r2⟩, hr⟩ : ∃ q, chkI f m = q := ⟨_, rfl⟩
        by_cases h0 : r2 = 0
        · have hM := may_chk (f := f) (n := m) (by rw [hr]; exact h0)
          have hG := may_goes hM HO.out
          have CR := Lib.hid (fun w (hA : Ri w w.heap.size A2 m f) => rcheck_any A2 m c2 f w hA)
          have CM := Lib.hid (fun w hK hA => most_ok A2 m c2 f w hK hA hc2 hM hG)
          have CE := Lib.hid (fun w hK hA => reach_ok A2 m c2 f w hK hA hc2 hM hG)
          have RR := Lib.hid (fun w hA => rreach_any A2 m c2 f w hA hM.lo hM.hi hG)
          have RM := Lib.hid (fun w hA => rmost_any A2 m c2 f w hA hM.lo hM.hi hG)
          rw [chk_may hM] at CR
          simp only at CR
          have hrl := reach_len f m
          obtain ⟨mo, hmo⟩ : ∃ mo, mostI f m = mo := ⟨_, rfl⟩
          rw [hmo] at CM RM
          obtain ⟨Re, hRe⟩ : ∃ Re, reachI f m = Re := ⟨_, rfl⟩
          rw [hRe] at CE RR hrl
          clear hr h0 hM hG hmo hRe r1 r2
          go_wp2_with fail
          refine (CE.out w2 K2 p2).mono ?_
          rintro e w3 ⟨A3, c3, rfl, hc3, q3, b3⟩
          have B3 := B2.trans (b3.mono B2.size)
          have K3 := K2.below b3 K2.pos
          have p3 := (p2.below b3 (Nat.le_refl _)).more b3.size
          clear B2 K2 p2 b3 CE
          go_wp2_with fail
          refine (CM.out w3 K3 p3).mono ?_
          rintro e w4 ⟨rfl, b4⟩
          have B4 := B3.trans (b4.mono B3.size)
          have p4 := (p3.below b4 (Nat.le_refl _)).more b4.size
          have q4 := (q3.below b4 (Nat.le_refl _)).more b4.size
          clear B3 K3 p3 q3 b4 CM
          go_wp2_with fail
          refine (CR.out w4 p4).mono ?_
          rintro e w5 ⟨rfl, b5⟩
          have B5 := B4.trans (b5.mono B4.size)
          have p5 := (p4.below b5 (Nat.le_refl _)).more b5.size
          have q5 := (q4.below b5 (Nat.le_refl _)).more b5.size
          clear B4 p4 q4 b5 CR
          go_wp2_with fail
          refine (RR.out w5 p5).mono ?_
          rintro e w6 ⟨A6, c6, rfl, hc6, q6, b6⟩
          have B6 := B5.trans (b6.mono B5.size)
          have p6 := (p5.below b6 (Nat.le_refl _)).more b6.size
          have q5' := (q5.below b6 (Nat.le_refl _)).more b6.size
          clear B5 p5 q5 b6 RR
          go_wp2_with fail
          refine (sameints_true A3 A6 Re.length Re.length c3 c6 _ _ Re w6 q5' q6 rfl rfl (by omega)).mono ?_
          rintro e w7 ⟨rfl, b7⟩
          have B7 := B6.trans (b7.mono B6.size)
          have p7 := (p6.below b7 (Nat.le_refl _)).more b7.size
          clear B6 p6 q5' q6 b7
          go_wp2_with fail
          refine (RM.out w7 p7).mono ?_
          rintro e w8 ⟨rfl, b8⟩
          have B8 := B7.trans (b8.mono B7.size)
          clear B7 p7 b8 RM
          go_wp2_with fail
          exact ⟨⟨k + 1, by omega, by go_num, B8⟩, by simp [intOf]; omega⟩
        · have CR := Lib.hid (fun w (hA : Ri w w.heap.size A2 m f) => rcheck_any A2 m c2 f w hA)
          have CM := Lib.hid (fun w hK hA => most_no A2 m c2 f w hK hA r1 r2 hr h0)
          have CE := Lib.hid (fun w hK hA => reach_no A2 m c2 f w hK hA r1 r2 hr h0)
          rw [hr] at CR
          simp only at CR
          clear hr
          go_wp2_with fail
          refine (CE.out w2 K2 p2).mono ?_
          rintro e w3 ⟨rfl, b3⟩
          have B3 := B2.trans (b3.mono B2.size)
          have K3 := K2.below b3 K2.pos
          have p3 := (p2.below b3 (Nat.le_refl _)).more b3.size
          clear B2 K2 p2 b3 CE
          go_wp2_with fail
          refine (CM.out w3 K3 p3).mono ?_
          rintro e w4 ⟨rfl, b4⟩
          have B4 := B3.trans (b4.mono B3.size)
          have p4 := (p3.below b4 (Nat.le_refl _)).more b4.size
          clear B3 K3 p3 b4 CM
          go_wp2_with fail
          refine (CR.out w4 p4).mono ?_
          rintro e w5 ⟨rfl, b5⟩
          have B5 := B4.trans (b5.mono B4.size)
          clear B4 p4 b5 CR
          go_wp2_with fail
          exact ⟨⟨k + 1, by omega, by go_num, B5⟩, by simp [intOf]; omega⟩
    · go_wp2_with fail
      go_ret
      exact ⟨rfl, hb⟩
end Go.Proofs.YtgepeckdafeedaaDoor
