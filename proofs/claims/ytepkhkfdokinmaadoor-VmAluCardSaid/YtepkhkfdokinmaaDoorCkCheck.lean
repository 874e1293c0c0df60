/-
  check.Check: which programs may be.
-/
import Derived.Test.YtepkhkfdokinmaaDoorCkOneA
namespace Go.Proofs.YtepkhkfdokinmaaDoor
open Go.RowKit

set_option maxRecDepth 100000 in
set_option maxHeartbeats 2000000 in
theorem check_size (A : Option Addr) (m cap : Nat) (f : Nat → Ins) (w : World) (hs : m < 1 ∨ 64 < m) :
    Calls Tryd.prog 20 #[.slice A m cap] w fun e w' => e = .returned (.tuple #[.int .i64 (chkI f m).1, .int .i64 (chkI f m).2]) ∧ Below w.heap.size w w' := by
  rw [chk_size hs]
  rcases hs with h | h
  · obtain rfl : m = 0 := by omega
    go_enter Tryd.func20, Tryd.ntmps20
    go_wp2_with fail
    go_ret2
    exact ⟨rfl, Below.refl _ _⟩
  · have h' : (64 : Int) < m := by omega
    have h0 : ¬ (m : Int) = 0 := by omega
    have h1 : ¬ (m : Int) < 1 := by omega
    have h2 : ¬ m = 0 := by omega
    go_enter Tryd.func20, Tryd.ntmps20
    go_wp2_with fail
    go_ret2
    exact ⟨rfl, Below.refl _ _⟩

set_option maxRecDepth 100000 in
set_option maxHeartbeats 4000000 in
theorem check_in (A : Option Addr) (m cap : Nat) (f : Nat → Ins) (w : World) (hK : Kinds w) (hA : Ri w w.heap.size A m f) (h1 : 1 ≤ m) (h64 : m ≤ 64) :
    Calls Tryd.prog 20 #[.slice A m cap] w fun e w' => e = .returned (.tuple #[.int .i64 (chkI f m).1, .int .i64 (chkI f m).2]) ∧ Below w.heap.size w w' := by
  have hm64 : ¬ (64 : Int) < m := by omega
  have hm0 : ¬ (m : Int) = 0 := by omega
  have hm1 : ¬ (m : Int) < 1 := by omega
  have hm2 : ¬ m = 0 := by omega
  obtain ⟨r1, r2, hr⟩ : ∃ r1 r2, chkI f m = (r1, r2) := ⟨_, _, rfl⟩
  have HR := Lib.hid hr
  rw [hr]
  simp only
  clear hr
  go_enter Tryd.func20, Tryd.ntmps20
  go_wp2_with fail
  go_loopw [18] (fun i wr => ∃ k : Nat, k ≤ m ∧ i = .int .i64 k ∧ (∀ j, j < k → oneAt f m j = 0) ∧ Below w.heap.size w wr) (fun i _ => m - (intOf i).toNat)
  case atStart => exact ⟨0, Nat.zero_le _, rfl, fun j hj => absurd hj (by omega), Below.refl _ _⟩
  case round =>
    obtain ⟨k, hk, rfl, hp, hb⟩ := hrel
    have rA := (hA.below hb (Nat.le_refl _)).more hb.size
    have kA := hK.below hb hK.pos
    by_cases hlt : k < m
    · have hlt' : (k : Int) < m := by omega
      have HP := Lib.hid hp
      clear hp
      obtain ⟨b, off, rfl, _, ⟨p0, p1, p2, p3⟩, ho⟩ := rA k hlt
      obtain ⟨⟨x, y, z, u⟩, hf⟩ : ∃ q : Ins, f k = q := ⟨_, rfl⟩
      have HF := Lib.hid hf
      rw [hf] at p0 p1 p2 p3 ho
      simp only at p0 p1 p2 p3
      obtain ⟨o, hone⟩ : ∃ o, oneL ((m : Int) - 1 - k) (x, y, z, u) = o := ⟨_, rfl⟩
      have HO := Lib.hid (show oneAt f m k = o by unfold oneAt; rw [hf]; exact hone)
      have cO := fun V (hK : Kinds V) => one_any (x, y, z, u) k m V hK ho (by omega) (by omega)
      rw [hone] at cO
      have cO' := Lib.hid cO
      clear hf hone cO ho
      by_cases h0 : o = 0
      · subst h0
        go_wp2_with fail
        refine (cO'.out _ (kA.alloc _)).mono ?_
        rintro e w2 ⟨rfl, hb2⟩
        have hB2 := (hb.alloc hb.size (.cells #[.int .u16 x, .int .u8 y, .int .u8 z, .int .u32 u] 54)).trans (hb2.mono (by simp; have := hb.size; omega))
        clear hb2
        go_wp2_with fail
        refine ⟨⟨k + 1, by omega, by go_num, fun j hj => ?_, hB2⟩, by simp [intOf]; omega⟩
        rcases Nat.lt_or_ge j k with h | h
        · exact HP.out j h
        · obtain rfl : j = k := by omega
          exact HO.out
      · go_wp2_with fail
        refine (cO'.out _ (kA.alloc _)).mono ?_
        rintro e w2 ⟨rfl, hb2⟩
        have hB2 := (hb.alloc hb.size (.cells #[.int .u16 x, .int .u8 y, .int .u8 z, .int .u32 u] 54)).trans (hb2.mono (by simp; have := hb.size; omega))
        clear hb2
        go_wp2_with fail
        go_ret2
        have hc := chk_bad (f := f) h1 h64 hlt (by rw [HO.out]; exact h0) HP.out
        rw [HR.out, HO.out] at hc
        injection hc with e1 e2
        subst e1 e2
        exact ⟨rfl, hB2⟩
    · obtain rfl : k = m := by omega
      have HP := Lib.hid hp
      clear hp
      obtain ⟨m', hm'⟩ : ∃ m', k = m' + 1 := ⟨k - 1, by omega⟩
      obtain ⟨b, off, rfl, _, ⟨p0, p1, p2, p3⟩, ho⟩ := rA m' (by omega)
      obtain ⟨⟨x, y, z, u⟩, hf⟩ : ∃ q : Ins, f m' = q := ⟨_, rfl⟩
      rw [hf] at p0 p1 p2 p3 ho
      simp only at p0 p1 p2 p3
      have cR := fun V (hK : Kinds V) => returns_any (x, y, z, u) V hK
      have HQ := Lib.hid (show retI (f (k - 1)) = retI (x, y, z, u) by rw [show k - 1 = m' by omega, hf])
      have hmi : (k : Int) - 1 = (m' : Int) := by omega
      have HM := Lib.hid hm'
      have HMI := Lib.hid hmi
      have hlt' : (m' : Int) < k := by omega
      have hx : ¬ (k : Int) < k := by omega
      clear hf hm' hmi
      obtain ⟨t, ht⟩ : ∃ t, retI (x, y, z, u) = t := ⟨_, rfl⟩
      rw [ht] at cR
      have cR' := Lib.hid cR
      have HT := Lib.hid ht
      clear cR ht
      have hmi := HMI.out
      cases t
      · go_wp2_with fail
        refine (cR'.out _ kA).mono ?_
        rintro e w2 ⟨rfl, hb2⟩
        have hB2 := hb.trans (hb2.mono hb.size)
        clear hb2
        go_wp2_with fail
        go_ret2
        have hc := chk_last (f := f) h1 h64 HP.out (by rw [HQ.out, HT.out])
        rw [HR.out] at hc
        injection hc with e1 e2
        subst e1 e2
        exact ⟨by simp [HMI.out], hB2⟩
      · go_wp2_with fail
        refine (cR'.out _ kA).mono ?_
        rintro e w2 ⟨rfl, hb2⟩
        have hB2 := hb.trans (hb2.mono hb.size)
        clear hb2
        go_wp2_with fail
        go_ret2
        have hc := chk_may (f := f) ⟨h1, h64, HP.out, by rw [HQ.out, HT.out]⟩
        rw [HR.out] at hc
        injection hc with e1 e2
        subst e1 e2
        exact ⟨rfl, hB2⟩

theorem check_any (A : Option Addr) (m cap : Nat) (f : Nat → Ins) (w : World) (hK : Kinds w) (hA : Ri w w.heap.size A m f) :
    Calls Tryd.prog 20 #[.slice A m cap] w fun e w' => e = .returned (.tuple #[.int .i64 (chkI f m).1, .int .i64 (chkI f m).2]) ∧ Below w.heap.size w w' := by
  by_cases hs : m < 1 ∨ 64 < m
  · exact check_size A m cap f w hs
  · exact check_in A m cap f w hK hA (by omega) (by omega)
end Go.Proofs.YtepkhkfdokinmaaDoor
