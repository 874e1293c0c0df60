/-
  InsnBack, walked: instructions and their bytes lead back to one another.
-/
import Derived.Test.YtndmlbepjcagiaaDoorFew
import Derived.Test.YtndmlbepjcagiaaDoorEqual
import Derived.Test.YtndmlbepjcagiaaDoorWakesI
set_option linter.unusedVariables false
namespace Go.Proofs.YtndmlbepjcagiaaDoor
open Go.RowKit

/-- What came in, at a later world. -/
structure BackIn (w0 w : World) (A1 : Option Addr) (l1 : Nat) (l : List Int) : Prop where
  bel : Below w0.heap.size w0 w
  kin : Kinds w
  rd : Rd w w.heap.size A1 l1 l
theorem BackIn.next {w0 w w' : World} {A1 : Option Addr} {l1 : Nat} {l : List Int} (h : BackIn w0 w A1 l1 l) (hb : Below w.heap.size w w') : BackIn w0 w' A1 l1 l :=
  ⟨h.bel.trans (hb.mono h.bel.size), h.kin.below hb h.kin.pos, (h.rd.below hb).more hb.size⟩
theorem Ri.ok {w : World} {B n : Nat} {A : Option Addr} {f : Nat → Ins} (h : Ri w B A n f) : ∀ k, k < n → insO (f k) := fun k hk => by
  obtain ⟨_, _, _, _, _, ho⟩ := h k hk
  exact ho
theorem BackIn.nextw {w0 w w' : World} {A1 : Option Addr} {l1 : Nat} {l : List Int} (h : BackIn w0 w A1 l1 l) (hb : Below w.heap.size w w') : BackIn w0 w' A1 l1 l := h.next hb

set_option maxRecDepth 100000 in
set_option maxHeartbeats 1000000 in
theorem back_long_over (A0 A1 : Option Addr) (l0 c0 l1 c1 m q : Nat) (f : Nat → Ins) (l : List Int) (w : World) (hK : Kinds w) (r0 : Ri w w.heap.size A0 l0 f) (h0 : l0 ≤ c0) (r1 : Rd w w.heap.size A1 l1 l) (h1 : l1 ≤ c1)
    (hm : m = min l0 256) (hl : 255 < m) (hb : 2040 < l1) :
    Calls Tryd.prog 6 #[.slice A0 l0 c0, .slice A1 l1 c1] w fun e w' => e = .returned (.bool true) ∧ Below w.heap.size w w' := by
  have HF := Lib.hid (fun w (hA : Ri w w.heap.size A0 l0 f) => few_any A0 l0 c0 f w hA h0 m hm)
  have hml : m ≤ l0 := by omega
  have HO := Lib.hid (r0.short hml).ok
  clear hm hml
  have g0 : BackIn w w A1 l1 l := ⟨Below.refl _ _, hK, r1⟩
  go_enter Tryd.func6, Tryd.ntmps6
  go_wp2_with fail
  refine (wakes_any w hK).mono ?_
  rintro e w1 ⟨rfl, b1⟩
  have g1 := g0.next b1
  have r01 := (r0.below b1 (Nat.le_refl _)).more b1.size
  go_wp2_with fail
  refine (HF.out w1 r01).mono ?_
  rintro e w2 ⟨A2, c2, rfl, o2, b2⟩
  have g2 := g1.next b2
  obtain ⟨r2, k2⟩ := ri_of_own o2 HO.out
  go_wp2_with fail
  refine (encAll_long A2 m c2 w2 hl).mono ?_
  rintro e w3 ⟨rfl, rfl⟩
  have g6 := g2
  go_wp2_with fail
  generalize hL : (min (l1 : Int) 2048).toNat = L
  have hLn : 2040 < L := by omega
  have hLi : (2040 : Int) < L := by omega
  clear hL
  refine (decAll_long A1 L c1 _ hLn).mono ?_
  rintro e w7 ⟨rfl, rfl⟩
  go_wp2_with fail
  all_goals
    go_ret
    exact ⟨rfl, g6.bel⟩

set_option maxRecDepth 100000 in
set_option maxHeartbeats 1000000 in
theorem back_long_row (A0 A1 : Option Addr) (l0 c0 l1 c1 m q : Nat) (f : Nat → Ins) (l : List Int) (w : World) (hK : Kinds w) (r0 : Ri w w.heap.size A0 l0 f) (h0 : l0 ≤ c0) (r1 : Rd w w.heap.size A1 l1 l) (h1 : l1 ≤ c1)
    (hm : m = min l0 256) (hl : 255 < m) (hb : l1 ≤ 2040) (hr : l1 % 8 ≠ 0) :
    Calls Tryd.prog 6 #[.slice A0 l0 c0, .slice A1 l1 c1] w fun e w' => e = .returned (.bool true) ∧ Below w.heap.size w w' := by
  have HF := Lib.hid (fun w (hA : Ri w w.heap.size A0 l0 f) => few_any A0 l0 c0 f w hA h0 m hm)
  have hml : m ≤ l0 := by omega
  have HO := Lib.hid (r0.short hml).ok
  clear hm hml
  have g0 : BackIn w w A1 l1 l := ⟨Below.refl _ _, hK, r1⟩
  have hbi : (l1 : Int) ≤ 2048 := by omega
  have hbj : (l1 : Int) ≤ 2040 := by omega
  have hri : ¬ (l1 : Int) % 8 = 0 := by omega
  have hrt : ¬ (l1 : Int).tmod 8 = 0 := by rw [Int.tmod_eq_emod_of_nonneg (by omega)]; exact hri
  go_enter Tryd.func6, Tryd.ntmps6
  go_wp2_with fail
  refine (wakes_any w hK).mono ?_
  rintro e w1 ⟨rfl, b1⟩
  have g1 := g0.next b1
  have r01 := (r0.below b1 (Nat.le_refl _)).more b1.size
  go_wp2_with fail
  refine (HF.out w1 r01).mono ?_
  rintro e w2 ⟨A2, c2, rfl, o2, b2⟩
  have g2 := g1.next b2
  obtain ⟨r2, k2⟩ := ri_of_own o2 HO.out
  go_wp2_with fail
  refine (encAll_long A2 m c2 w2 hl).mono ?_
  rintro e w3 ⟨rfl, rfl⟩
  have g6 := g2
  go_wp2_with fail
  generalize hL : (min (l1 : Int) 2048).toNat = L
  obtain rfl : l1 = L := by omega
  clear hL
  refine (decAll_row A1 l1 c1 _ hb hr).mono ?_
  rintro e w7 ⟨rfl, rfl⟩
  go_wp2_with fail
  go_ret
  exact ⟨rfl, g6.bel⟩

set_option maxRecDepth 100000 in
set_option maxHeartbeats 1000000 in
theorem back_long_back (A0 A1 : Option Addr) (l0 c0 l1 c1 m q : Nat) (f : Nat → Ins) (l : List Int) (w : World) (hK : Kinds w) (r0 : Ri w w.heap.size A0 l0 f) (h0 : l0 ≤ c0) (r1 : Rd w w.heap.size A1 l1 l) (h1 : l1 ≤ c1)
    (hm : m = min l0 256) (hl : 255 < m) (hb : l1 ≤ 2040) (hq : l1 = q * 8) :
    Calls Tryd.prog 6 #[.slice A0 l0 c0, .slice A1 l1 c1] w fun e w' => e = .returned (.bool true) ∧ Below w.heap.size w w' := by
  have HF := Lib.hid (fun w (hA : Ri w w.heap.size A0 l0 f) => few_any A0 l0 c0 f w hA h0 m hm)
  have hml : m ≤ l0 := by omega
  have HO := Lib.hid (r0.short hml).ok
  clear hm hml
  have g0 : BackIn w w A1 l1 l := ⟨Below.refl _ _, hK, r1⟩
  have hbi : (l1 : Int) ≤ 2048 := by omega
  have hq255 : q ≤ 255 := by omega
  have HQ := Lib.hid hq
  clear hq
  go_enter Tryd.func6, Tryd.ntmps6
  go_wp2_with fail
  refine (wakes_any w hK).mono ?_
  rintro e w1 ⟨rfl, b1⟩
  have g1 := g0.next b1
  have r01 := (r0.below b1 (Nat.le_refl _)).more b1.size
  go_wp2_with fail
  refine (HF.out w1 r01).mono ?_
  rintro e w2 ⟨A2, c2, rfl, o2, b2⟩
  have g2 := g1.next b2
  obtain ⟨r2, k2⟩ := ri_of_own o2 HO.out
  go_wp2_with fail
  refine (encAll_long A2 m c2 w2 hl).mono ?_
  rintro e w3 ⟨rfl, rfl⟩
  have g6 := g2
  go_wp2_with fail
  generalize hL : (min (l1 : Int) 2048).toNat = L
  obtain rfl : l1 = L := by omega
  clear hL
  refine (decAll_ok A1 q l1 c1 l _ g6.rd HQ.out h1 hq255).mono ?_
  rintro e w7 ⟨A7, c7, rfl, o7, b7⟩
  have g7 := g6.next b7
  obtain ⟨r7, k7⟩ := ri_of_own o7 fun k hk => insO_dI r1.byt (m := q) (by rw [r1.len]; exact HQ.out) hk
  go_wp2_with fail
  refine (encAll_ok A7 q c7 _ w7 r7 k7 hq255).mono ?_
  rintro e w8 ⟨A8, c8, rfl, o8, b8⟩
  have g8 := g7.next b8
  rw [bytes_back r1.byt (m := q) (by rw [r1.len]; exact HQ.out)] at o8
  go_wp2_with fail
  refine (equal_any A8 A1 (8 * q) c8 l1 c1 _ _ l l w8 o8.rd g8.rd).mono ?_
  rintro e w9 ⟨rfl, rfl⟩
  go_wp2_with fail
  go_ret
  exact ⟨by simp, g8.bel⟩

set_option maxRecDepth 100000 in
set_option maxHeartbeats 1000000 in
theorem back_ok_over (A0 A1 : Option Addr) (l0 c0 l1 c1 m q : Nat) (f : Nat → Ins) (l : List Int) (w : World) (hK : Kinds w) (r0 : Ri w w.heap.size A0 l0 f) (h0 : l0 ≤ c0) (r1 : Rd w w.heap.size A1 l1 l) (h1 : l1 ≤ c1)
    (hm : m = min l0 256) (hl : m ≤ 255) (hb : 2040 < l1) :
    Calls Tryd.prog 6 #[.slice A0 l0 c0, .slice A1 l1 c1] w fun e w' => e = .returned (.bool true) ∧ Below w.heap.size w w' := by
  have HF := Lib.hid (fun w (hA : Ri w w.heap.size A0 l0 f) => few_any A0 l0 c0 f w hA h0 m hm)
  have hml : m ≤ l0 := by omega
  have HO := Lib.hid (r0.short hml).ok
  clear hm hml
  have g0 : BackIn w w A1 l1 l := ⟨Below.refl _ _, hK, r1⟩
  have hmi : (m : Int) ≤ 255 := by omega
  have hm8 : ((8 * m : Nat) : Int) = 8 * (m : Int) := by omega
  go_enter Tryd.func6, Tryd.ntmps6
  go_wp2_with fail
  refine (wakes_any w hK).mono ?_
  rintro e w1 ⟨rfl, b1⟩
  have g1 := g0.next b1
  have r01 := (r0.below b1 (Nat.le_refl _)).more b1.size
  go_wp2_with fail
  refine (HF.out w1 r01).mono ?_
  rintro e w2 ⟨A2, c2, rfl, o2, b2⟩
  have g2 := g1.next b2
  obtain ⟨r2, k2⟩ := ri_of_own o2 HO.out
  go_wp2_with fail
  refine (encAll_ok A2 m c2 f w2 r2 k2 hl).mono ?_
  rintro e w3 ⟨A3, c3, rfl, o3, b3⟩
  have g3 := g2.next b3
  have r3 := (r2.below b3 (Nat.le_refl _)).more b3.size
  go_wp2_with fail
  refine (decAll_ok A3 m (8 * m) c3 _ w3 o3.rd (Nat.mul_comm _ _) o3.cap hl).mono ?_
  rintro e w4 ⟨A4, c4, rfl, o4, b4⟩
  have g4 := g3.next b4
  have r4 := (r3.below b4 (Nat.le_refl _)).more b4.size
  obtain ⟨r5, k5⟩ := ri_of_own o4 fun k hk => insO_dI o3.rd.byt (m := m) (by rw [o3.len]; omega) hk
  have HS := Lib.hid (seq_true A2 A4 m c2 c4 _ _ f _ w4 r4 r5 (fun k hk => dI_flat f m k HO.out hk) (by omega))
  go_wp2_with fail
  refine HS.out.mono ?_
  rintro e w5 ⟨rfl, b5⟩
  have g6 := g4.next b5
  go_wp2_with fail
  generalize hL : (min (l1 : Int) 2048).toNat = L
  have hLn : 2040 < L := by omega
  have hLi : (2040 : Int) < L := by omega
  clear hL
  refine (decAll_long A1 L c1 _ hLn).mono ?_
  rintro e w7 ⟨rfl, rfl⟩
  go_wp2_with fail
  all_goals
    go_ret
    exact ⟨rfl, g6.bel⟩

set_option maxRecDepth 100000 in
set_option maxHeartbeats 1000000 in
theorem back_ok_row (A0 A1 : Option Addr) (l0 c0 l1 c1 m q : Nat) (f : Nat → Ins) (l : List Int) (w : World) (hK : Kinds w) (r0 : Ri w w.heap.size A0 l0 f) (h0 : l0 ≤ c0) (r1 : Rd w w.heap.size A1 l1 l) (h1 : l1 ≤ c1)
    (hm : m = min l0 256) (hl : m ≤ 255) (hb : l1 ≤ 2040) (hr : l1 % 8 ≠ 0) :
    Calls Tryd.prog 6 #[.slice A0 l0 c0, .slice A1 l1 c1] w fun e w' => e = .returned (.bool true) ∧ Below w.heap.size w w' := by
  have HF := Lib.hid (fun w (hA : Ri w w.heap.size A0 l0 f) => few_any A0 l0 c0 f w hA h0 m hm)
  have hml : m ≤ l0 := by omega
  have HO := Lib.hid (r0.short hml).ok
  clear hm hml
  have g0 : BackIn w w A1 l1 l := ⟨Below.refl _ _, hK, r1⟩
  have hmi : (m : Int) ≤ 255 := by omega
  have hm8 : ((8 * m : Nat) : Int) = 8 * (m : Int) := by omega
  have hbi : (l1 : Int) ≤ 2048 := by omega
  have hbj : (l1 : Int) ≤ 2040 := by omega
  have hri : ¬ (l1 : Int) % 8 = 0 := by omega
  have hrt : ¬ (l1 : Int).tmod 8 = 0 := by rw [Int.tmod_eq_emod_of_nonneg (by omega)]; exact hri
  go_enter Tryd.func6, Tryd.ntmps6
  go_wp2_with fail
  refine (wakes_any w hK).mono ?_
  rintro e w1 ⟨rfl, b1⟩
  have g1 := g0.next b1
  have r01 := (r0.below b1 (Nat.le_refl _)).more b1.size
  go_wp2_with fail
  refine (HF.out w1 r01).mono ?_
  rintro e w2 ⟨A2, c2, rfl, o2, b2⟩
  have g2 := g1.next b2
  obtain ⟨r2, k2⟩ := ri_of_own o2 HO.out
  go_wp2_with fail
  refine (encAll_ok A2 m c2 f w2 r2 k2 hl).mono ?_
  rintro e w3 ⟨A3, c3, rfl, o3, b3⟩
  have g3 := g2.next b3
  have r3 := (r2.below b3 (Nat.le_refl _)).more b3.size
  go_wp2_with fail
  refine (decAll_ok A3 m (8 * m) c3 _ w3 o3.rd (Nat.mul_comm _ _) o3.cap hl).mono ?_
  rintro e w4 ⟨A4, c4, rfl, o4, b4⟩
  have g4 := g3.next b4
  have r4 := (r3.below b4 (Nat.le_refl _)).more b4.size
  obtain ⟨r5, k5⟩ := ri_of_own o4 fun k hk => insO_dI o3.rd.byt (m := m) (by rw [o3.len]; omega) hk
  have HS := Lib.hid (seq_true A2 A4 m c2 c4 _ _ f _ w4 r4 r5 (fun k hk => dI_flat f m k HO.out hk) (by omega))
  go_wp2_with fail
  refine HS.out.mono ?_
  rintro e w5 ⟨rfl, b5⟩
  have g6 := g4.next b5
  go_wp2_with fail
  generalize hL : (min (l1 : Int) 2048).toNat = L
  obtain rfl : l1 = L := by omega
  clear hL
  refine (decAll_row A1 l1 c1 _ hb hr).mono ?_
  rintro e w7 ⟨rfl, rfl⟩
  go_wp2_with fail
  go_ret
  exact ⟨rfl, g6.bel⟩

set_option maxRecDepth 100000 in
set_option maxHeartbeats 1000000 in
theorem back_ok_back (A0 A1 : Option Addr) (l0 c0 l1 c1 m q : Nat) (f : Nat → Ins) (l : List Int) (w : World) (hK : Kinds w) (r0 : Ri w w.heap.size A0 l0 f) (h0 : l0 ≤ c0) (r1 : Rd w w.heap.size A1 l1 l) (h1 : l1 ≤ c1)
    (hm : m = min l0 256) (hl : m ≤ 255) (hb : l1 ≤ 2040) (hq : l1 = q * 8) :
    Calls Tryd.prog 6 #[.slice A0 l0 c0, .slice A1 l1 c1] w fun e w' => e = .returned (.bool true) ∧ Below w.heap.size w w' := by
  have HF := Lib.hid (fun w (hA : Ri w w.heap.size A0 l0 f) => few_any A0 l0 c0 f w hA h0 m hm)
  have hml : m ≤ l0 := by omega
  have HO := Lib.hid (r0.short hml).ok
  clear hm hml
  have g0 : BackIn w w A1 l1 l := ⟨Below.refl _ _, hK, r1⟩
  have hmi : (m : Int) ≤ 255 := by omega
  have hm8 : ((8 * m : Nat) : Int) = 8 * (m : Int) := by omega
  have hbi : (l1 : Int) ≤ 2048 := by omega
  have hq255 : q ≤ 255 := by omega
  have HQ := Lib.hid hq
  clear hq
  go_enter Tryd.func6, Tryd.ntmps6
  go_wp2_with fail
  refine (wakes_any w hK).mono ?_
  rintro e w1 ⟨rfl, b1⟩
  have g1 := g0.next b1
  have r01 := (r0.below b1 (Nat.le_refl _)).more b1.size
  go_wp2_with fail
  refine (HF.out w1 r01).mono ?_
  rintro e w2 ⟨A2, c2, rfl, o2, b2⟩
  have g2 := g1.next b2
  obtain ⟨r2, k2⟩ := ri_of_own o2 HO.out
  go_wp2_with fail
  refine (encAll_ok A2 m c2 f w2 r2 k2 hl).mono ?_
  rintro e w3 ⟨A3, c3, rfl, o3, b3⟩
  have g3 := g2.next b3
  have r3 := (r2.below b3 (Nat.le_refl _)).more b3.size
  go_wp2_with fail
  refine (decAll_ok A3 m (8 * m) c3 _ w3 o3.rd (Nat.mul_comm _ _) o3.cap hl).mono ?_
  rintro e w4 ⟨A4, c4, rfl, o4, b4⟩
  have g4 := g3.next b4
  have r4 := (r3.below b4 (Nat.le_refl _)).more b4.size
  obtain ⟨r5, k5⟩ := ri_of_own o4 fun k hk => insO_dI o3.rd.byt (m := m) (by rw [o3.len]; omega) hk
  have HS := Lib.hid (seq_true A2 A4 m c2 c4 _ _ f _ w4 r4 r5 (fun k hk => dI_flat f m k HO.out hk) (by omega))
  go_wp2_with fail
  refine HS.out.mono ?_
  rintro e w5 ⟨rfl, b5⟩
  have g6 := g4.next b5
  go_wp2_with fail
  generalize hL : (min (l1 : Int) 2048).toNat = L
  obtain rfl : l1 = L := by omega
  clear hL
  refine (decAll_ok A1 q l1 c1 l _ g6.rd HQ.out h1 hq255).mono ?_
  rintro e w7 ⟨A7, c7, rfl, o7, b7⟩
  have g7 := g6.next b7
  obtain ⟨r7, k7⟩ := ri_of_own o7 fun k hk => insO_dI r1.byt (m := q) (by rw [r1.len]; exact HQ.out) hk
  go_wp2_with fail
  refine (encAll_ok A7 q c7 _ w7 r7 k7 hq255).mono ?_
  rintro e w8 ⟨A8, c8, rfl, o8, b8⟩
  have g8 := g7.next b8
  rw [bytes_back r1.byt (m := q) (by rw [r1.len]; exact HQ.out)] at o8
  go_wp2_with fail
  refine (equal_any A8 A1 (8 * q) c8 l1 c1 _ _ l l w8 o8.rd g8.rd).mono ?_
  rintro e w9 ⟨rfl, rfl⟩
  go_wp2_with fail
  go_ret
  exact ⟨by simp, g8.bel⟩

theorem insnBack_any (A0 A1 : Option Addr) (l0 c0 l1 c1 : Nat) (f : Nat → Ins) (l : List Int) (w : World) (hK : Kinds w) (r0 : Ri w w.heap.size A0 l0 f) (h0 : l0 ≤ c0) (r1 : Rd w w.heap.size A1 l1 l) (h1 : l1 ≤ c1) :
    Calls Tryd.prog 6 #[.slice A0 l0 c0, .slice A1 l1 c1] w fun e w' => e = .returned (.bool true) ∧ Below w.heap.size w w' := by
  rcases Nat.lt_or_ge 255 (min l0 256) with hm | hm
  · rcases Nat.lt_or_ge 2040 l1 with hb | hb
    · exact back_long_over A0 A1 l0 c0 l1 c1 _ 0 f l w hK r0 h0 r1 h1 rfl hm hb
    · by_cases hr : l1 % 8 = 0
      · exact back_long_back A0 A1 l0 c0 l1 c1 _ (l1 / 8) f l w hK r0 h0 r1 h1 rfl hm hb (by omega)
      · exact back_long_row A0 A1 l0 c0 l1 c1 _ 0 f l w hK r0 h0 r1 h1 rfl hm hb hr
  · rcases Nat.lt_or_ge 2040 l1 with hb | hb
    · exact back_ok_over A0 A1 l0 c0 l1 c1 _ 0 f l w hK r0 h0 r1 h1 rfl hm hb
    · by_cases hr : l1 % 8 = 0
      · exact back_ok_back A0 A1 l0 c0 l1 c1 _ (l1 / 8) f l w hK r0 h0 r1 h1 rfl hm hb (by omega)
      · exact back_ok_row A0 A1 l0 c0 l1 c1 _ 0 f l w hK r0 h0 r1 h1 rfl hm hb hr
end Go.Proofs.YtndmlbepjcagiaaDoor
