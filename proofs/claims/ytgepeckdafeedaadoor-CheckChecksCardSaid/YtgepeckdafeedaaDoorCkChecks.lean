/-
  CheckChecks, walked: which programs may be filters, or where they may not.
-/
import Derived.Test.YtgepeckdafeedaaDoorCkWake
import Derived.Test.YtgepeckdafeedaaDoorCkRCheck
import Derived.Test.YtgepeckdafeedaaDoorRowsI
namespace Go.Proofs.YtgepeckdafeedaaDoor
open Go.RowKit

set_option maxRecDepth 100000 in
set_option maxHeartbeats 8000000 in
theorem checkChecks_any (A : Option Addr) (n cap : Nat) (R : Nat → RowJ) (w : World) (hK : Kinds w) (hR : RowsI w w.heap.size A n R) (hn : n ≤ 9223372036854775807) :
    Calls Tryd.prog 3 #[.slice A n cap] w fun e w' => e = .returned (.bool true) ∧ Below w.heap.size w w' := by
  go_enter Tryd.func3, Tryd.ntmps3
  go_wp2_with fail
  refine (wakes4_any w hK).mono ?_
  rintro e w1 ⟨rfl, b1⟩
  go_wp2_with fail
  go_loopw [15] (fun i wr => ∃ k : Nat, k ≤ n ∧ i = .int .i64 k ∧ Below w.heap.size w wr) (fun i _ => n - (intOf i).toNat)
  case atStart => exact ⟨0, Nat.zero_le _, rfl, b1⟩
  case round =>
    obtain ⟨k, hk, rfl, hb⟩ := hrel
    have R1 := hR.below hb
    have K1 := hK.below hb hK.pos
    obtain ⟨wo, rfl⟩ : ∃ wo : World, wo = wr := ⟨_, rfl⟩
    by_cases hlt : k < n
    · have hlt' : (k : Int) < n := by omega
      obtain ⟨b, off, rfl, _, hc, hr, h2, h3⟩ := R1 k hlt
      obtain ⟨⟨a, l, c, f⟩, hq⟩ : ∃ q : RowJ, R k = q := ⟨_, rfl⟩
      rw [hq] at hc hr h2 h3
      simp only at hc hr h2 h3
      clear hq R1
      by_cases h8 : k = 8
      · subst h8
        go_wp2_with fail
        go_ret
        exact ⟨rfl, hb⟩
      · have h8' : ((k : Int) == 8) = false := by simp; omega
        have r0 := hr.more hb.size
        clear hr
        obtain ⟨m, hm⟩ : ∃ m, m = min l 65 := ⟨_, rfl⟩
        have HF := Lib.hid (fun w (hA : Ri w w.heap.size a l f) => few4_any a l c f w hA h2 m hm)
        have HO := Lib.hid (fun j (hj : j < m) => r0.ok j (by omega))
        have hm65 : m ≤ 65 := by omega
        clear hm
        go_wp2_with fail
        refine (HF.out _ r0).mono ?_
        rintro e w2 ⟨A2, c2, rfl, o2, b2⟩
        have r2 := (r0.below b2 (Nat.le_refl _)).more b2.size
        have B2 := hb.trans (b2.mono hb.size)
        have K2 := K1.below b2 K1.pos
        clear r0 hb K1 b2
        go_wp2_with fail
        refine (HF.out _ r2).mono ?_
        rintro e w3 ⟨A3, c3, rfl, o3, b3⟩
        have p2 := ((ri_of_own o2 HO.out).1.below b3 (Nat.le_refl _)).more b3.size
        have p3 := (ri_of_own o3 HO.out).1
        have B3 := B2.trans (b3.mono B2.size)
        have K3 := K2.below b3 K2.pos
        clear r2 o2 o3 B2 K2 b3
        go_wp2_with fail
        refine (check_any A2 m c2 f w3 K3 p2).mono ?_
        rintro e w4 ⟨rfl, b4⟩
        have q2 := (p2.below b4 (Nat.le_refl _)).more b4.size
        have q3 := (p3.below b4 (Nat.le_refl _)).more b4.size
        have B4 := B3.trans (b4.mono B3.size)
        clear p2 p3 B3 K3 b4
        have CR := Lib.hid (fun w (hA : Ri w w.heap.size A3 m f) => rcheck_any A3 m c3 f w hA)
        obtain ⟨⟨r1, r2⟩, hr⟩ : ∃ q, chkI f m = q := ⟨_, rfl⟩
        rw [hr] at CR ⊢
        simp only at CR ⊢
        clear hr
        go_wp2_with fail
        refine (CR.out _ q3).mono ?_
        rintro e w5 ⟨rfl, b5⟩
        have p2 := (q2.below b5 (Nat.le_refl _)).more b5.size
        have p3 := (q3.below b5 (Nat.le_refl _)).more b5.size
        have B5 := B4.trans (b5.mono B4.size)
        clear q2 q3 B4 b5 CR
        go_wp2_with fail
        refine (refsameI_true A2 A3 m c2 c3 _ _ f f w5 p2 p3 (fun _ _ => rfl) (by omega)).mono ?_
        rintro e w6 ⟨rfl, b6⟩
        have B6 := B5.trans (b6.mono B5.size)
        clear p2 p3 B5 b6
        go_wp2_with fail
        exact ⟨⟨k + 1, by omega, by go_num, B6⟩, by simp [intOf]; omega⟩
    · go_wp2_with fail
      go_ret
      exact ⟨rfl, hb⟩
end Go.Proofs.YtgepeckdafeedaaDoor
