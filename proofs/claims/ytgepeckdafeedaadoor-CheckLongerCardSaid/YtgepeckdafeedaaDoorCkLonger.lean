/-
  CheckLonger, walked: one instruction more ahead, or one less, changes what it says alone.
-/
import Derived.Test.YtgepeckdafeedaaDoorCkWake
import Derived.Test.YtgepeckdafeedaaDoorCkApp
import Derived.Test.YtgepeckdafeedaaDoorCkReach
namespace Go.Proofs.YtgepeckdafeedaaDoor
open Go.RowKit

theorem may_ahead {f : Nat → Ins} {n : Nat} (h : May f n) (h64 : n < 64) (k : Int) : May (ahead (0, 0, 0, k) f) (n + 1) := by
  refine may_chk ?_
  rw [chk_longer f n k h.lo h64, chk_may h]

set_option maxRecDepth 100000 in
set_option maxHeartbeats 8000000 in
theorem longer_none (A : Option Addr) (l cap : Nat) (f : Nat → Ins) (k : Int) (w : World) (hK : Kinds w) (hA : Ri w w.heap.size A l f) (hc : l ≤ cap) (k0 : 0 ≤ k) (k1 : k ≤ 4294967295) (m : Nat) (hm : m = min l 65) (h0 : m = 0) :
    Calls Tryd.prog 6 #[.slice A l cap, .int .u32 k] w fun e w' => e = .returned (.bool true) ∧ Below w.heap.size w w' := by
  have HF := Lib.hid (fun w (hA : Ri w w.heap.size A l f) => few4_any A l cap f w hA hc m hm)
  have HO := Lib.hid (fun j (hj : j < m) => hA.ok j (by omega))
  have hm65 : m ≤ 65 := by omega
  have CC := Lib.hid (fun A c w hK hA => check_any A m c f w hK hA)
  have CM := Lib.hid (fun A c w hK hA => check_any A (m + 1) c (ahead (0, 0, 0, k) f) w hK hA)
  have hq : InsOk 0 0 0 k := by constructor <;> omega
  have hok : ∀ j, j < m + 1 → insO (ahead (0, 0, 0, k) f j) := fun j hj => by
    cases j with
    | zero => exact hq
    | succ j => exact HO.out j (by omega)
  have HOK := Lib.hid hok
  clear hok hq
  have hc1 : chkI (ahead (0, 0, 0, k) f) (m + 1) = (0, 147) := by subst h0; exact chk_alone k f
  rw [chk_size (f := f) (n := m) (by omega)] at CC
  rw [hc1] at CM
  simp only at CC CM
  have HZ := Lib.hid h0
  clear hc1 h0
  clear hm
  go_enter Tryd.func6, Tryd.ntmps6
  go_wp2_with fail
  refine (wakes4_any _ hK).mono ?_
  rintro e w1 ⟨rfl, b1⟩
  have K1 := hK.below b1 hK.pos
  have r1' := (hA.below b1 (Nat.le_refl _)).more b1.size
  clear hK hA
  go_wp2_with fail
  refine (HF.out _ r1').mono ?_
  rintro e w2 ⟨A2, c2, rfl, o2, b2⟩
  have B2 := b1.trans (b2.mono b1.size)
  have K2 := K1.below b2 K1.pos
  obtain ⟨p2, hc2⟩ := ri_of_own o2 HO.out
  clear b1 b2 K1 r1' o2
  go_wp2_with fail
  refine (CC.out A2 c2 w2 K2 p2).mono ?_
  rintro e w3 ⟨rfl, b3⟩
  have B3 := B2.trans (b3.mono B2.size)
  have K3 := K2.below b3 K2.pos
  have p3 := (p2.below b3 (Nat.le_refl _)).more b3.size
  have hA0 := Lib.hid (fun (e : A2 = none) => show m = 0 by
    rcases Nat.eq_zero_or_pos m with h | h
    · exact h
    · obtain ⟨b, off, e', _⟩ := p3 0 h
      rw [e] at e'
      cases e')
  have p3' := p3.below ((Below.refl w3.heap.size w3).alloc (Nat.le_refl _) (.cells (celI (0, 0, 0, k)).toArray 42)) (Nat.le_refl _)
  clear b3 B2 K2 p2
  go_wp2_with (first
    | (at_builtin; refine wpList_ahead rfl (.tmp 23) (.tmp 24) rfl (0, 0, 0, k) w3 rfl rfl A2 w3.heap.size m c2 f rfl p3' (by omega) hA0.out ?_; intro A4 c4 w4 o4 b4))
  have B4 := B3.trans (b4.mono B3.size)
  have K4 := K3.below b4 K3.pos
  have p4 := (p3.below b4 (Nat.le_refl _)).more b4.size
  obtain ⟨q4, hc4⟩ := ri_of_own o4 HOK.out
  clear b4 B3 K3 p3 p3' o4
  refine (CM.out A4 c4 w4 K4 q4).mono ?_
  rintro e w5 ⟨rfl, b5⟩
  have B5 := B4.trans (b5.mono B4.size)
  have K5 := K4.below b5 K4.pos
  have p5 := (p4.below b5 (Nat.le_refl _)).more b5.size
  have q5 := (q4.below b5 (Nat.le_refl _)).more b5.size
  clear b5 B4 K4 p4 q4 CC CM
  have h0 := HZ.out
  go_wp2_with fail
  go_ret
  exact ⟨rfl, B5⟩

set_option maxRecDepth 100000 in
set_option maxHeartbeats 8000000 in
theorem longer_big (A : Option Addr) (l cap : Nat) (f : Nat → Ins) (k : Int) (w : World) (hK : Kinds w) (hA : Ri w w.heap.size A l f) (hc : l ≤ cap) (k0 : 0 ≤ k) (k1 : k ≤ 4294967295) (m : Nat) (hm : m = min l 65) (h0 : 64 ≤ m) :
    Calls Tryd.prog 6 #[.slice A l cap, .int .u32 k] w fun e w' => e = .returned (.bool true) ∧ Below w.heap.size w w' := by
  have HF := Lib.hid (fun w (hA : Ri w w.heap.size A l f) => few4_any A l cap f w hA hc m hm)
  have HO := Lib.hid (fun j (hj : j < m) => hA.ok j (by omega))
  have hm65 : m ≤ 65 := by omega
  have CC := Lib.hid (fun A c w hK hA => check_any A m c f w hK hA)
  have CM := Lib.hid (fun A c w hK hA => check_any A (m + 1) c (ahead (0, 0, 0, k) f) w hK hA)
  have hq : InsOk 0 0 0 k := by constructor <;> omega
  have hok : ∀ j, j < m + 1 → insO (ahead (0, 0, 0, k) f j) := fun j hj => by
    cases j with
    | zero => exact hq
    | succ j => exact HO.out j (by omega)
  have HOK := Lib.hid hok
  clear hok hq
  rw [chk_size (f := ahead (0, 0, 0, k) f) (n := m + 1) (by omega)] at CM
  simp only at CM
  obtain ⟨⟨r1, r2⟩, hr⟩ : ∃ q, chkI f m = q := ⟨_, rfl⟩
  rw [hr] at CC
  simp only at CC
  clear hr
  have h1 : ¬ m = 0 := by omega
  have h2 : (64 : Int) ≤ m := by omega
  have h3 : ¬ (m : Int) = 0 := by omega
  clear hm
  go_enter Tryd.func6, Tryd.ntmps6
  go_wp2_with fail
  refine (wakes4_any _ hK).mono ?_
  rintro e w1 ⟨rfl, b1⟩
  have K1 := hK.below b1 hK.pos
  have r1' := (hA.below b1 (Nat.le_refl _)).more b1.size
  clear hK hA
  go_wp2_with fail
  refine (HF.out _ r1').mono ?_
  rintro e w2 ⟨A2, c2, rfl, o2, b2⟩
  have B2 := b1.trans (b2.mono b1.size)
  have K2 := K1.below b2 K1.pos
  obtain ⟨p2, hc2⟩ := ri_of_own o2 HO.out
  clear b1 b2 K1 r1' o2
  go_wp2_with fail
  refine (CC.out A2 c2 w2 K2 p2).mono ?_
  rintro e w3 ⟨rfl, b3⟩
  have B3 := B2.trans (b3.mono B2.size)
  have K3 := K2.below b3 K2.pos
  have p3 := (p2.below b3 (Nat.le_refl _)).more b3.size
  have hA0 := Lib.hid (fun (e : A2 = none) => show m = 0 by
    rcases Nat.eq_zero_or_pos m with h | h
    · exact h
    · obtain ⟨b, off, e', _⟩ := p3 0 h
      rw [e] at e'
      cases e')
  have p3' := p3.below ((Below.refl w3.heap.size w3).alloc (Nat.le_refl _) (.cells (celI (0, 0, 0, k)).toArray 42)) (Nat.le_refl _)
  clear b3 B2 K2 p2
  go_wp2_with (first
    | (at_builtin; refine wpList_ahead rfl (.tmp 23) (.tmp 24) rfl (0, 0, 0, k) w3 rfl rfl A2 w3.heap.size m c2 f rfl p3' (by omega) hA0.out ?_; intro A4 c4 w4 o4 b4))
  have B4 := B3.trans (b4.mono B3.size)
  have K4 := K3.below b4 K3.pos
  have p4 := (p3.below b4 (Nat.le_refl _)).more b4.size
  obtain ⟨q4, hc4⟩ := ri_of_own o4 HOK.out
  clear b4 B3 K3 p3 p3' o4
  refine (CM.out A4 c4 w4 K4 q4).mono ?_
  rintro e w5 ⟨rfl, b5⟩
  have B5 := B4.trans (b5.mono B4.size)
  have K5 := K4.below b5 K4.pos
  have p5 := (p4.below b5 (Nat.le_refl _)).more b5.size
  have q5 := (q4.below b5 (Nat.le_refl _)).more b5.size
  clear b5 B4 K4 p4 q4 CC CM
  go_wp2_with fail
  go_ret
  exact ⟨rfl, B5⟩

set_option maxRecDepth 100000 in
set_option maxHeartbeats 8000000 in
theorem longer_bad (A : Option Addr) (l cap : Nat) (f : Nat → Ins) (k : Int) (w : World) (hK : Kinds w) (hA : Ri w w.heap.size A l f) (hc : l ≤ cap) (k0 : 0 ≤ k) (k1 : k ≤ 4294967295) (m : Nat) (hm : m = min l 65) (h1 : 1 ≤ m) (h64 : m < 64) (hr : ¬ (chkI f m).2 = 0) :
    Calls Tryd.prog 6 #[.slice A l cap, .int .u32 k] w fun e w' => e = .returned (.bool true) ∧ Below w.heap.size w w' := by
  have HF := Lib.hid (fun w (hA : Ri w w.heap.size A l f) => few4_any A l cap f w hA hc m hm)
  have HO := Lib.hid (fun j (hj : j < m) => hA.ok j (by omega))
  have hm65 : m ≤ 65 := by omega
  have CC := Lib.hid (fun A c w hK hA => check_any A m c f w hK hA)
  have CM := Lib.hid (fun A c w hK hA => check_any A (m + 1) c (ahead (0, 0, 0, k) f) w hK hA)
  have hq : InsOk 0 0 0 k := by constructor <;> omega
  have hok : ∀ j, j < m + 1 → insO (ahead (0, 0, 0, k) f j) := fun j hj => by
    cases j with
    | zero => exact hq
    | succ j => exact HO.out j (by omega)
  have HOK := Lib.hid hok
  clear hok hq
  have hl := chk_longer f m k h1 h64
  obtain ⟨⟨r1, r2⟩, hr1⟩ : ∃ q, chkI f m = q := ⟨_, rfl⟩
  obtain ⟨⟨s1, s2⟩, hr2⟩ : ∃ q, chkI (ahead (0, 0, 0, k) f) (m + 1) = q := ⟨_, rfl⟩
  rw [hr1] at CC hl hr
  rw [hr2] at CM hl
  simp only at CC CM hl hr
  subst hl
  clear hr1 hr2
  have h0 : ¬ m = 0 := by omega
  have h2 : ¬ (64 : Int) ≤ m := by omega
  have h3 : ¬ (m : Int) = 0 := by omega
  clear hm
  go_enter Tryd.func6, Tryd.ntmps6
  go_wp2_with fail
  refine (wakes4_any _ hK).mono ?_
  rintro e w1 ⟨rfl, b1⟩
  have K1 := hK.below b1 hK.pos
  have r1' := (hA.below b1 (Nat.le_refl _)).more b1.size
  clear hK hA
  go_wp2_with fail
  refine (HF.out _ r1').mono ?_
  rintro e w2 ⟨A2, c2, rfl, o2, b2⟩
  have B2 := b1.trans (b2.mono b1.size)
  have K2 := K1.below b2 K1.pos
  obtain ⟨p2, hc2⟩ := ri_of_own o2 HO.out
  clear b1 b2 K1 r1' o2
  go_wp2_with fail
  refine (CC.out A2 c2 w2 K2 p2).mono ?_
  rintro e w3 ⟨rfl, b3⟩
  have B3 := B2.trans (b3.mono B2.size)
  have K3 := K2.below b3 K2.pos
  have p3 := (p2.below b3 (Nat.le_refl _)).more b3.size
  have hA0 := Lib.hid (fun (e : A2 = none) => show m = 0 by
    rcases Nat.eq_zero_or_pos m with h | h
    · exact h
    · obtain ⟨b, off, e', _⟩ := p3 0 h
      rw [e] at e'
      cases e')
  have p3' := p3.below ((Below.refl w3.heap.size w3).alloc (Nat.le_refl _) (.cells (celI (0, 0, 0, k)).toArray 42)) (Nat.le_refl _)
  clear b3 B2 K2 p2
  go_wp2_with (first
    | (at_builtin; refine wpList_ahead rfl (.tmp 23) (.tmp 24) rfl (0, 0, 0, k) w3 rfl rfl A2 w3.heap.size m c2 f rfl p3' (by omega) hA0.out ?_; intro A4 c4 w4 o4 b4))
  have B4 := B3.trans (b4.mono B3.size)
  have K4 := K3.below b4 K3.pos
  have p4 := (p3.below b4 (Nat.le_refl _)).more b4.size
  obtain ⟨q4, hc4⟩ := ri_of_own o4 HOK.out
  clear b4 B3 K3 p3 p3' o4
  refine (CM.out A4 c4 w4 K4 q4).mono ?_
  rintro e w5 ⟨rfl, b5⟩
  have B5 := B4.trans (b5.mono B4.size)
  have K5 := K4.below b5 K4.pos
  have p5 := (p4.below b5 (Nat.le_refl _)).more b5.size
  have q5 := (q4.below b5 (Nat.le_refl _)).more b5.size
  clear b5 B4 K4 p4 q4 CC CM
  go_wp2_with fail
  go_ret
  exact ⟨rfl, B5⟩

set_option maxRecDepth 100000 in
set_option maxHeartbeats 8000000 in
theorem longer_one (A : Option Addr) (l cap : Nat) (f : Nat → Ins) (k : Int) (w : World) (hK : Kinds w) (hA : Ri w w.heap.size A l f) (hc : l ≤ cap) (k0 : 0 ≤ k) (k1 : k ≤ 4294967295) (m : Nat) (hm : m = min l 65) (h64 : m < 64) (hM : May f m) (h1 : m = 1) :
    Calls Tryd.prog 6 #[.slice A l cap, .int .u32 k] w fun e w' => e = .returned (.bool true) ∧ Below w.heap.size w w' := by
  have HF := Lib.hid (fun w (hA : Ri w w.heap.size A l f) => few4_any A l cap f w hA hc m hm)
  have HO := Lib.hid (fun j (hj : j < m) => hA.ok j (by omega))
  have hm65 : m ≤ 65 := by omega
  have CC := Lib.hid (fun A c w hK hA => check_any A m c f w hK hA)
  have CM := Lib.hid (fun A c w hK hA => check_any A (m + 1) c (ahead (0, 0, 0, k) f) w hK hA)
  have hq : InsOk 0 0 0 k := by constructor <;> omega
  have hok : ∀ j, j < m + 1 → insO (ahead (0, 0, 0, k) f j) := fun j hj => by
    cases j with
    | zero => exact hq
    | succ j => exact HO.out j (by omega)
  have HOK := Lib.hid hok
  clear hok hq
  have hlo := hM.lo
  have hG := may_goes hM HO.out
  have hM' := may_ahead hM h64 k
  have hG' := may_goes hM' HOK.out
  have hmo := most_longer hM.hi hG k
  have hle := (most_reach hG).2
  have M1 := Lib.hid (fun A c w hK hA hc => most_ok A m c f w hK hA hc hM hG)
  have M2 := Lib.hid (fun A c w hK hA hc => most_ok A (m + 1) c (ahead (0, 0, 0, k) f) w hK hA hc hM' hG')
  rw [hmo] at M2
  rw [chk_may hM] at CC
  rw [chk_may hM'] at CM
  simp only at CC CM
  obtain ⟨a, ha⟩ : ∃ a, mostI f m = a := ⟨_, rfl⟩
  rw [ha] at M1 M2 hle
  have ha1 : a ≤ 64 := by have := hM.hi; omega
  clear hmo hle ha hG hG' hM'
  have h0 : ¬ m = 0 := by omega
  have h2 : ¬ (64 : Int) ≤ m := by omega
  have h3 : ¬ (m : Int) = 0 := by omega
  have h4 : ¬ (1 : Int) < m := by omega
  have h5 : ¬ 1 < m := by omega
  clear h1
  clear hm
  go_enter Tryd.func6, Tryd.ntmps6
  go_wp2_with fail
  refine (wakes4_any _ hK).mono ?_
  rintro e w1 ⟨rfl, b1⟩
  have K1 := hK.below b1 hK.pos
  have r1' := (hA.below b1 (Nat.le_refl _)).more b1.size
  clear hK hA
  go_wp2_with fail
  refine (HF.out _ r1').mono ?_
  rintro e w2 ⟨A2, c2, rfl, o2, b2⟩
  have B2 := b1.trans (b2.mono b1.size)
  have K2 := K1.below b2 K1.pos
  obtain ⟨p2, hc2⟩ := ri_of_own o2 HO.out
  clear b1 b2 K1 r1' o2
  go_wp2_with fail
  refine (CC.out A2 c2 w2 K2 p2).mono ?_
  rintro e w3 ⟨rfl, b3⟩
  have B3 := B2.trans (b3.mono B2.size)
  have K3 := K2.below b3 K2.pos
  have p3 := (p2.below b3 (Nat.le_refl _)).more b3.size
  have hA0 := Lib.hid (fun (e : A2 = none) => show m = 0 by
    rcases Nat.eq_zero_or_pos m with h | h
    · exact h
    · obtain ⟨b, off, e', _⟩ := p3 0 h
      rw [e] at e'
      cases e')
  have p3' := p3.below ((Below.refl w3.heap.size w3).alloc (Nat.le_refl _) (.cells (celI (0, 0, 0, k)).toArray 42)) (Nat.le_refl _)
  clear b3 B2 K2 p2
  go_wp2_with (first
    | (at_builtin; refine wpList_ahead rfl (.tmp 23) (.tmp 24) rfl (0, 0, 0, k) w3 rfl rfl A2 w3.heap.size m c2 f rfl p3' (by omega) hA0.out ?_; intro A4 c4 w4 o4 b4))
  have B4 := B3.trans (b4.mono B3.size)
  have K4 := K3.below b4 K3.pos
  have p4 := (p3.below b4 (Nat.le_refl _)).more b4.size
  obtain ⟨q4, hc4⟩ := ri_of_own o4 HOK.out
  clear b4 B3 K3 p3 p3' o4
  refine (CM.out A4 c4 w4 K4 q4).mono ?_
  rintro e w5 ⟨rfl, b5⟩
  have B5 := B4.trans (b5.mono B4.size)
  have K5 := K4.below b5 K4.pos
  have p5 := (p4.below b5 (Nat.le_refl _)).more b5.size
  have q5 := (q4.below b5 (Nat.le_refl _)).more b5.size
  clear b5 B4 K4 p4 q4 CC CM
  go_wp2_with fail
  refine (M1.out A2 c2 w5 K5 p5 hc2).mono ?_
  rintro e w6 ⟨rfl, b6⟩
  have B6 := B5.trans (b6.mono B5.size)
  have K6 := K5.below b6 K5.pos
  have p6 := (p5.below b6 (Nat.le_refl _)).more b6.size
  have q6 := (q5.below b6 (Nat.le_refl _)).more b6.size
  clear b6 B5 K5 p5 q5
  go_wp2_with fail
  refine (M2.out A4 c4 w6 K6 q6 hc4).mono ?_
  rintro e w7 ⟨rfl, b7⟩
  have B7 := B6.trans (b7.mono B6.size)
  have K7 := K6.below b7 K6.pos
  have p7 := (p6.below b7 (Nat.le_refl _)).more b7.size
  clear b7 B6 K6 p6 q6 M1 M2
  go_wp2_with fail
  go_ret
  exact ⟨rfl, B7⟩

set_option maxRecDepth 100000 in
set_option maxHeartbeats 8000000 in
theorem longer_more (A : Option Addr) (l cap : Nat) (f : Nat → Ins) (k : Int) (w : World) (hK : Kinds w) (hA : Ri w w.heap.size A l f) (hc : l ≤ cap) (k0 : 0 ≤ k) (k1 : k ≤ 4294967295) (m : Nat) (hm : m = min l 65) (h64 : m < 64) (hM : May f m) (h1 : 1 < m) :
    Calls Tryd.prog 6 #[.slice A l cap, .int .u32 k] w fun e w' => e = .returned (.bool true) ∧ Below w.heap.size w w' := by
  have HF := Lib.hid (fun w (hA : Ri w w.heap.size A l f) => few4_any A l cap f w hA hc m hm)
  have HO := Lib.hid (fun j (hj : j < m) => hA.ok j (by omega))
  have hm65 : m ≤ 65 := by omega
  have CC := Lib.hid (fun A c w hK hA => check_any A m c f w hK hA)
  have CM := Lib.hid (fun A c w hK hA => check_any A (m + 1) c (ahead (0, 0, 0, k) f) w hK hA)
  have hq : InsOk 0 0 0 k := by constructor <;> omega
  have hok : ∀ j, j < m + 1 → insO (ahead (0, 0, 0, k) f j) := fun j hj => by
    cases j with
    | zero => exact hq
    | succ j => exact HO.out j (by omega)
  have HOK := Lib.hid hok
  clear hok hq
  have hlo := hM.lo
  have hG := may_goes hM HO.out
  have hM' := may_ahead hM h64 k
  have hG' := may_goes hM' HOK.out
  have hmo := most_longer hM.hi hG k
  have hle := (most_reach hG).2
  have M1 := Lib.hid (fun A c w hK hA hc => most_ok A m c f w hK hA hc hM hG)
  have M2 := Lib.hid (fun A c w hK hA hc => most_ok A (m + 1) c (ahead (0, 0, 0, k) f) w hK hA hc hM' hG')
  rw [hmo] at M2
  rw [chk_may hM] at CC
  rw [chk_may hM'] at CM
  simp only at CC CM
  obtain ⟨a, ha⟩ : ∃ a, mostI f m = a := ⟨_, rfl⟩
  rw [ha] at M1 M2 hle
  have ha1 : a ≤ 64 := by have := hM.hi; omega
  clear hmo hle ha hG hG' hM'
  have hT := may_tail hM h1
  have CT := Lib.hid (fun A c w hK hA => check_any A (m - 1) c (fun i => f (i + 1)) w hK hA)
  rw [chk_may hT] at CT
  simp only at CT
  have h0 : ¬ m = 0 := by omega
  have h2 : ¬ (64 : Int) ≤ m := by omega
  have h3 : ¬ (m : Int) = 0 := by omega
  have h4 : (1 : Int) < m := by omega
  have h5 : (1 : Int) ≤ m := by omega
  clear hm
  go_enter Tryd.func6, Tryd.ntmps6
  go_wp2_with fail
  refine (wakes4_any _ hK).mono ?_
  rintro e w1 ⟨rfl, b1⟩
  have K1 := hK.below b1 hK.pos
  have r1' := (hA.below b1 (Nat.le_refl _)).more b1.size
  clear hK hA
  go_wp2_with fail
  refine (HF.out _ r1').mono ?_
  rintro e w2 ⟨A2, c2, rfl, o2, b2⟩
  have B2 := b1.trans (b2.mono b1.size)
  have K2 := K1.below b2 K1.pos
  obtain ⟨p2, hc2⟩ := ri_of_own o2 HO.out
  clear b1 b2 K1 r1' o2
  go_wp2_with fail
  refine (CC.out A2 c2 w2 K2 p2).mono ?_
  rintro e w3 ⟨rfl, b3⟩
  have B3 := B2.trans (b3.mono B2.size)
  have K3 := K2.below b3 K2.pos
  have p3 := (p2.below b3 (Nat.le_refl _)).more b3.size
  have hA0 := Lib.hid (fun (e : A2 = none) => show m = 0 by
    rcases Nat.eq_zero_or_pos m with h | h
    · exact h
    · obtain ⟨b, off, e', _⟩ := p3 0 h
      rw [e] at e'
      cases e')
  have p3' := p3.below ((Below.refl w3.heap.size w3).alloc (Nat.le_refl _) (.cells (celI (0, 0, 0, k)).toArray 42)) (Nat.le_refl _)
  clear b3 B2 K2 p2
  go_wp2_with (first
    | (at_builtin; refine wpList_ahead rfl (.tmp 23) (.tmp 24) rfl (0, 0, 0, k) w3 rfl rfl A2 w3.heap.size m c2 f rfl p3' (by omega) hA0.out ?_; intro A4 c4 w4 o4 b4))
  have B4 := B3.trans (b4.mono B3.size)
  have K4 := K3.below b4 K3.pos
  have p4 := (p3.below b4 (Nat.le_refl _)).more b4.size
  obtain ⟨q4, hc4⟩ := ri_of_own o4 HOK.out
  clear b4 B3 K3 p3 p3' o4
  refine (CM.out A4 c4 w4 K4 q4).mono ?_
  rintro e w5 ⟨rfl, b5⟩
  have B5 := B4.trans (b5.mono B4.size)
  have K5 := K4.below b5 K4.pos
  have p5 := (p4.below b5 (Nat.le_refl _)).more b5.size
  have q5 := (q4.below b5 (Nat.le_refl _)).more b5.size
  clear b5 B4 K4 p4 q4 CC CM
  go_wp2_with fail
  refine (M1.out A2 c2 w5 K5 p5 hc2).mono ?_
  rintro e w6 ⟨rfl, b6⟩
  have B6 := B5.trans (b6.mono B5.size)
  have K6 := K5.below b6 K5.pos
  have p6 := (p5.below b6 (Nat.le_refl _)).more b6.size
  have q6 := (q5.below b6 (Nat.le_refl _)).more b6.size
  clear b6 B5 K5 p5 q5
  go_wp2_with fail
  refine (M2.out A4 c4 w6 K6 q6 hc4).mono ?_
  rintro e w7 ⟨rfl, b7⟩
  have B7 := B6.trans (b7.mono B6.size)
  have K7 := K6.below b7 K6.pos
  have p7 := (p6.below b7 (Nat.le_refl _)).more b7.size
  clear b7 B6 K6 p6 q6 M1 M2
  obtain ⟨b, off, rfl, hbl, _⟩ := p7 0 (by omega)
  have pT : Ri w7 w7.heap.size (some ⟨b, off + 4, none⟩) (m - 1) (fun i => f (i + 1)) := fun j hj => by
    obtain ⟨b', off', e, h, ⟨c0, c1, c2, c3⟩, ho⟩ := p7 (j + 1) (by omega)
    cases e
    have e0 : off + 4 + j * 4 = off + (j + 1) * 4 := by omega
    exact ⟨b, off + 4, rfl, h, ⟨by rw [e0]; exact c0, by rw [e0]; exact c1, by rw [e0]; exact c2, by rw [e0]; exact c3⟩, ho⟩
  have hcap2 : (1 : Int) ≤ c2 := by omega
  have hcap3 : (m : Int) ≤ c2 := by omega
  have hne : ¬ c2 = 1 := by omega
  go_wp2_with fail
  refine (CT.out _ _ w7 K7 pT).mono ?_
  rintro e w8 ⟨rfl, b8⟩
  have B8 := B7.trans (b8.mono B7.size)
  go_wp2_with fail
  go_ret
  exact ⟨rfl, B8⟩

theorem checkLonger_any (A : Option Addr) (l cap : Nat) (f : Nat → Ins) (k : Int) (w : World) (hK : Kinds w) (hA : Ri w w.heap.size A l f) (hc : l ≤ cap) (k0 : 0 ≤ k) (k1 : k ≤ 4294967295) :
    Calls Tryd.prog 6 #[.slice A l cap, .int .u32 k] w fun e w' => e = .returned (.bool true) ∧ Below w.heap.size w w' := by
  obtain ⟨m, hm⟩ : ∃ m, m = min l 65 := ⟨_, rfl⟩
  by_cases h0 : m = 0
  · exact longer_none A l cap f k w hK hA hc k0 k1 m hm h0
  · by_cases h64 : 64 ≤ m
    · exact longer_big A l cap f k w hK hA hc k0 k1 m hm h64
    · by_cases hr : (chkI f m).2 = 0
      · have hM := may_chk hr
        by_cases h1 : m = 1
        · exact longer_one A l cap f k w hK hA hc k0 k1 m hm (by omega) hM h1
        · exact longer_more A l cap f k w hK hA hc k0 k1 m hm (by omega) hM (by omega)
      · exact longer_bad A l cap f k w hK hA hc k0 k1 m hm (by omega) (by omega) hr
end Go.Proofs.YtgepeckdafeedaaDoor
