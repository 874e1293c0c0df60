/-
  check.One: why an instruction may not stand at a place, of all instructions.
  check.Check: which programs may be.
-/
import Derived.Test.YtelfdpcenplhjaaGreatDoorQCkOne
namespace Go.Proofs.YtelfdpcenplhjaaGreatDoor
open Go.RowKit
set_option maxHeartbeats 1000000 in
theorem one_none (c a b k : Int) (i n : Nat) (w : World) (hK : Kinds w) (hr : rowC c = none) :
    Calls Tryz.prog 88 #[.agg #[.int .u16 c, .int .u8 a, .int .u8 b, .int .u32 k], .int .i64 i, .int .i64 n] w fun e w' => e = .returned (.int .i64 141) ∧ Below w.heap.size w w' := by
  have hN := fun w hK => name_any c w hK
  have hF := fun w hK => form_any c w hK
  rw [name_no hr] at hN
  rw [form_no hr] at hF
  go_enter Tryz.func88, Tryz.ntmps88
  go_wp2_with fail
  refine (hN _ (hK.alloc _)).mono ?_
  rintro e w1 ⟨rfl, hb⟩
  have B1 := ((Below.refl _ w).alloc (Nat.le_refl _) (.cells #[.int .u16 c, .int .u8 a, .int .u8 b, .int .u32 k] 111)).trans (hb.mono (by simp))
  have x0 := (hb.cell (p := ⟨w.heap.size, 0, none⟩) (by simp)).trans (show _ = some (Value.int .u16 c) by simp)
  clear hb hN
  have K1 := hK.below B1 hK.pos
  clear hK
  go_wp2_with fail
  refine (hF _ K1).mono ?_
  rintro e w2 ⟨rfl, rfl⟩
  go_wp2_with fail
  go_ret
  exact ⟨rfl, B1⟩
theorem one_any (q : Ins) (i n : Nat) (w : World) (hK : Kinds w) (ho : insO q) (hi : i ≤ 1000) (hn : n ≤ 1000) :
    Calls Tryz.prog 88 #[valI q, .int .i64 i, .int .i64 n] w fun e w' => e = .returned (.int .i64 (oneL ((n : Int) - 1 - i) q)) ∧ Below w.heap.size w w' := by
  obtain ⟨c, a, b, k⟩ := q
  have ho' : InsOk c a b k := ho
  obtain ⟨c0, c1, a0, a1, b0, b1, k0, k1⟩ := ho'
  have ho' : InsOk c a b k := ho
  have hF : ∀ fm, formOf c = fm → ∀ w, Kinds w → Calls Tryz.prog 103 #[.int .u16 c] w fun e w' => e = .returned (.int .i64 fm) ∧ w' = w := fun fm h w hK => by rw [← h]; exact form_any c w hK
  have hT : ∀ bo : Bool, decide (formOf c = 5 ∨ formOf c = 6) = bo → ∀ w, Kinds w → Calls Tryz.prog 105 #[.agg #[.int .u16 c, .int .u8 a, .int .u8 b, .int .u32 k]] w fun e w' => e = .returned (.bool bo) ∧ Below w.heap.size w w' := fun bo h w hK => by rw [← h]; exact tests_any (c, a, b, k) w hK
  have W : ∀ (z : Int) (bo : Bool), 0 ≤ z → z ≤ 4294967295 → decide (z < (n : Int) - 1 - i) = bo → ∀ w, Calls Tryz.prog 104 #[.int .u32 z, .int .i64 i, .int .i64 n] w fun e w' => e = .returned (.bool bo) ∧ w' = w := fun z bo h0 h1 h w => by rw [← h]; exact within_any z i n w h0 h1 hi hn
  show Calls Tryz.prog 88 #[.agg #[.int .u16 c, .int .u8 a, .int .u8 b, .int .u32 k], .int .i64 i, .int .i64 n] w fun e w' => e = .returned (.int .i64 (oneL ((n : Int) - 1 - i) (c, a, b, k))) ∧ Below w.heap.size w w'
  cases hr : rowC c with
  | none =>
    rw [show oneL ((n : Int) - 1 - i) (c, a, b, k) = 141 by simp [oneL, hr]]
    exact one_none c a b k i n w hK hr
  | some j =>
    have hN := fun w hK => name_any c w hK
    rw [name_fst c (by rw [hr]; simp)] at hN
    have n1 := nm_ld_abs c
    have n2 := nm_div_k c
    have n3 := nm_lsh_k c
    have n4 := nm_rsh_k c
    obtain ⟨s, hs⟩ : ∃ s, (nameOf c).1 = s := ⟨_, rfl⟩
    rw [hs] at hN n1 n2 n3 n4
    clear hs
    have hm : k.tmod 4 = k % 4 := Int.tmod_eq_emod_of_nonneg k0
    by_cases h32 : c = 32
    · have f := form_2.2 h32
      by_cases h4 : k % 4 = 0
      · by_cases h64 : 64 ≤ k
        · rw [show oneL ((n : Int) - 1 - i) (c, a, b, k) = 142 by rw [h32, oneL_32]; simp [h64]]
          exact one_ld2 c a b k i n 2 s w hK ho' hN (hF 2 f) rfl (n1.2 h32) h4 (by omega) h64
        · rw [show oneL ((n : Int) - 1 - i) (c, a, b, k) = 0 by rw [h32, oneL_32]; simp [h4, h64]]
          exact one_ld3 c a b k i n 2 s w hK ho' hN (hF 2 f) (hT false (by rw [f]; rfl)) rfl (n1.2 h32) h4 (by omega) h64
      · rw [show oneL ((n : Int) - 1 - i) (c, a, b, k) = 142 by rw [h32, oneL_32]; simp [h4]]
        exact one_ld1 c a b k i n 2 s w hK ho' hN (hF 2 f) rfl (n1.2 h32) h4 (by omega)
    · by_cases h52 : c = 52
      · have f := form_named (.inl h52)
        by_cases h0 : k = 0
        · rw [show oneL ((n : Int) - 1 - i) (c, a, b, k) = 143 by rw [h52, oneL_52]; simp [h0]]
          exact one_div1 c a b k i n 1 s w hK ho' hN (hF 1 f) rfl (n2.2 h52) h0
        · rw [show oneL ((n : Int) - 1 - i) (c, a, b, k) = 0 by rw [h52, oneL_52]; simp [h0]]
          exact one_div2 c a b k i n 1 s w hK ho' hN (hF 1 f) (hT false (by rw [f]; rfl)) rfl (n2.2 h52) h0
      · by_cases h100 : c = 100
        · have f := form_named (.inr (.inl h100))
          by_cases h0 : 32 ≤ k
          · rw [show oneL ((n : Int) - 1 - i) (c, a, b, k) = 144 by rw [h100, oneL_100]; simp [h0]]
            exact one_lsh1 c a b k i n 1 s w hK ho' hN (hF 1 f) rfl (n3.2 h100) h0
          · rw [show oneL ((n : Int) - 1 - i) (c, a, b, k) = 0 by rw [h100, oneL_100]; simp [h0]]
            exact one_lsh2 c a b k i n 1 s w hK ho' hN (hF 1 f) (hT false (by rw [f]; rfl)) rfl (n3.2 h100) h0
        · by_cases h116 : c = 116
          · have f := form_named (.inr (.inr (.inl h116)))
            by_cases h0 : 32 ≤ k
            · rw [show oneL ((n : Int) - 1 - i) (c, a, b, k) = 144 by rw [h116, oneL_116]; simp [h0]]
              exact one_rsh1 c a b k i n 1 s w hK ho' hN (hF 1 f) rfl (n4.2 h116) h0
            · rw [show oneL ((n : Int) - 1 - i) (c, a, b, k) = 0 by rw [h116, oneL_116]; simp [h0]]
              exact one_rsh2 c a b k i n 1 s w hK ho' hN (hF 1 f) (hT false (by rw [f]; rfl)) rfl (n4.2 h116) h0
          · have m1 := fun h => h32 (n1.1 h)
            have m2 := fun h => h52 (n2.1 h)
            have m3 := fun h => h100 (n3.1 h)
            have m4 := fun h => h116 (n4.1 h)
            have hL : oneL ((n : Int) - 1 - i) (c, a, b, k) = if formOf c = 3 then (if 16 ≤ k then 145 else 0) else if formOf c = 4 then (if (n : Int) - 1 - i ≤ k then 146 else 0) else if formOf c = 5 ∨ formOf c = 6 then (if (n : Int) - 1 - i ≤ a ∨ (n : Int) - 1 - i ≤ b then 146 else 0) else 0 := by
              simp only [oneL, hr, h32, h52, h100, h116]; simp
            rw [hL]
            clear hL n1 n2 n3 n4
            by_cases f3 : formOf c = 3
            · rw [if_pos f3]
              by_cases h0 : 16 ≤ k
              · rw [if_pos h0]
                exact one_mem1 c a b k i n 3 s w hK ho' hN (hF 3 f3) rfl m1 m2 m3 m4 h0
              · rw [if_neg h0]
                exact one_mem2 c a b k i n 3 s w hK ho' hN (hF 3 f3) (hT false (by rw [f3]; rfl)) rfl m1 m2 m3 m4 h0
            · rw [if_neg f3]
              by_cases f4 : formOf c = 4
              · rw [if_pos f4]
                by_cases h0 : (n : Int) - 1 - i ≤ k
                · rw [if_pos h0]
                  exact one_ja2 c a b k i n 4 s w hK ho' hN (hF 4 f4) (W k false k0 k1 (by simp; omega)) rfl m1 m2 m3 m4
                · rw [if_neg h0]
                  exact one_ja1 c a b k i n 4 s w hK ho' hN (hF 4 f4) (W k true k0 k1 (by simp; omega)) (hT false (by rw [f4]; rfl)) rfl m1 m2 m3 m4
              · rw [if_neg f4]
                by_cases f5 : formOf c = 5
                · rw [if_pos (.inl f5)]
                  by_cases ha : (n : Int) - 1 - i ≤ a
                  · rw [if_pos (.inl ha)]
                    exact one_t3 c a b k i n 5 s w hK ho' hN (hF 5 f5) (hT true (by rw [f5]; rfl)) (W a false a0 (by omega) (by simp; omega)) rfl m1 m2 m3 m4
                  · by_cases hb : (n : Int) - 1 - i ≤ b
                    · rw [if_pos (.inr hb)]
                      exact one_t2 c a b k i n 5 s w hK ho' hN (hF 5 f5) (hT true (by rw [f5]; rfl)) (W a true a0 (by omega) (by simp; omega)) (W b false b0 (by omega) (by simp; omega)) rfl m1 m2 m3 m4
                    · rw [if_neg (by omega)]
                      exact one_t1 c a b k i n 5 s w hK ho' hN (hF 5 f5) (hT true (by rw [f5]; rfl)) (W a true a0 (by omega) (by simp; omega)) (W b true b0 (by omega) (by simp; omega)) rfl m1 m2 m3 m4
                · by_cases f6 : formOf c = 6
                  · rw [if_pos (.inr f6)]
                    by_cases ha : (n : Int) - 1 - i ≤ a
                    · rw [if_pos (.inl ha)]
                      exact one_x3 c a b k i n 6 s w hK ho' hN (hF 6 f6) (hT true (by rw [f6]; rfl)) (W a false a0 (by omega) (by simp; omega)) rfl m1 m2 m3 m4
                    · by_cases hb : (n : Int) - 1 - i ≤ b
                      · rw [if_pos (.inr hb)]
                        exact one_x2 c a b k i n 6 s w hK ho' hN (hF 6 f6) (hT true (by rw [f6]; rfl)) (W a true a0 (by omega) (by simp; omega)) (W b false b0 (by omega) (by simp; omega)) rfl m1 m2 m3 m4
                      · rw [if_neg (by omega)]
                        exact one_x1 c a b k i n 6 s w hK ho' hN (hF 6 f6) (hT true (by rw [f6]; rfl)) (W a true a0 (by omega) (by simp; omega)) (W b true b0 (by omega) (by simp; omega)) rfl m1 m2 m3 m4
                  · rw [if_neg (by omega)]
                    exact one_un c a b k i n _ s w hK ho' hN (hF _ rfl) (hT false (by simp [f5, f6])) (fun h => h32 (form_2.1 h)) f3 f4 f5 f6 m1 m2 m3 m4
open Go.RowKit
set_option maxRecDepth 100000 in
set_option maxHeartbeats 2000000 in
theorem check_size (A : Option Addr) (m cap : Nat) (f : Nat → Ins) (w : World) (hs : m < 1 ∨ 64 < m) :
    Calls Tryz.prog 67 #[.slice A m cap] w fun e w' => e = .returned (.tuple #[.int .i64 (chkI f m).1, .int .i64 (chkI f m).2]) ∧ Below w.heap.size w w' := by
  rw [chk_size hs]
  rcases hs with h | h
  · obtain rfl : m = 0 := by omega
    go_enter Tryz.func67, Tryz.ntmps67
    go_wp2_with fail
    go_ret2
    exact ⟨rfl, Below.refl _ _⟩
  · have h' : (64 : Int) < m := by omega
    have h0 : ¬ (m : Int) = 0 := by omega
    have h1 : ¬ (m : Int) < 1 := by omega
    have h2 : ¬ m = 0 := by omega
    go_enter Tryz.func67, Tryz.ntmps67
    go_wp2_with fail
    go_ret2
    exact ⟨rfl, Below.refl _ _⟩
set_option maxRecDepth 100000 in
set_option maxHeartbeats 4000000 in
theorem check_in (A : Option Addr) (m cap : Nat) (f : Nat → Ins) (w : World) (hK : Kinds w) (hA : Ri w w.heap.size A m f) (h1 : 1 ≤ m) (h64 : m ≤ 64) :
    Calls Tryz.prog 67 #[.slice A m cap] w fun e w' => e = .returned (.tuple #[.int .i64 (chkI f m).1, .int .i64 (chkI f m).2]) ∧ Below w.heap.size w w' := by
  have hm64 : ¬ (64 : Int) < m := by omega
  have hm0 : ¬ (m : Int) = 0 := by omega
  have hm1 : ¬ (m : Int) < 1 := by omega
  have hm2 : ¬ m = 0 := by omega
  obtain ⟨r1, r2, hr⟩ : ∃ r1 r2, chkI f m = (r1, r2) := ⟨_, _, rfl⟩
  have HR := Lib.hid hr
  rw [hr]
  simp only
  clear hr
  go_enter Tryz.func67, Tryz.ntmps67
  go_wp2_with fail
  go_loopw [18] (fun i wr => ∃ k : Nat, k ≤ m ∧ i = .int .i64 k ∧ (∀ j, j < k → oneAt f m j = 0) ∧ Below w.heap.size w wr) (fun i _ => m - (intOf i).toNat)
  case atStart => exact ⟨0, Nat.zero_le _, rfl, fun j hj => absurd hj (by omega), Below.refl _ _⟩
  case round =>
    obtain ⟨k, hk, rfl, hp, hb⟩ := hrel
    have rA := (hA.below hb (Nat.le_refl _)).more hb.size
    have kA := hK.below hb hK.pos
    by_cases hlt : k < m
    · have hlt' : (k : Int) < m := by omega
      have HP := Lib.hid hp
      clear hp
      obtain ⟨b, off, rfl, _, ⟨p0, p1, p2, p3⟩, ho⟩ := rA k hlt
      obtain ⟨⟨x, y, z, u⟩, hf⟩ : ∃ q : Ins, f k = q := ⟨_, rfl⟩
      have HF := Lib.hid hf
      rw [hf] at p0 p1 p2 p3 ho
      simp only at p0 p1 p2 p3
      obtain ⟨o, hone⟩ : ∃ o, oneL ((m : Int) - 1 - k) (x, y, z, u) = o := ⟨_, rfl⟩
      have HO := Lib.hid (show oneAt f m k = o by unfold oneAt; rw [hf]; exact hone)
      have cO := fun V (hK : Kinds V) => one_any (x, y, z, u) k m V hK ho (by omega) (by omega)
      rw [hone] at cO
      have cO' := Lib.hid cO
      clear hf hone cO ho
      by_cases h0 : o = 0
      · subst h0
        go_wp2_with fail
        refine (cO'.out _ (kA.alloc _)).mono ?_
        rintro e w2 ⟨rfl, hb2⟩
        have hB2 := (hb.alloc hb.size (.cells #[.int .u16 x, .int .u8 y, .int .u8 z, .int .u32 u] 111)).trans (hb2.mono (by simp; have := hb.size; omega))
        clear hb2
        go_wp2_with fail
        refine ⟨⟨k + 1, by omega, by go_num, fun j hj => ?_, hB2⟩, by simp [intOf]; omega⟩
        rcases Nat.lt_or_ge j k with h | h
        · exact HP.out j h
        · obtain rfl : j = k := by omega
          exact HO.out
      · go_wp2_with fail
        refine (cO'.out _ (kA.alloc _)).mono ?_
        rintro e w2 ⟨rfl, hb2⟩
        have hB2 := (hb.alloc hb.size (.cells #[.int .u16 x, .int .u8 y, .int .u8 z, .int .u32 u] 111)).trans (hb2.mono (by simp; have := hb.size; omega))
        clear hb2
        go_wp2_with fail
        go_ret2
        have hc := chk_bad (f := f) h1 h64 hlt (by rw [HO.out]; exact h0) HP.out
        rw [HR.out, HO.out] at hc
        injection hc with e1 e2
        subst e1 e2
        exact ⟨rfl, hB2⟩
    · obtain rfl : k = m := by omega
      have HP := Lib.hid hp
      clear hp
      obtain ⟨m', hm'⟩ : ∃ m', k = m' + 1 := ⟨k - 1, by omega⟩
      obtain ⟨b, off, rfl, _, ⟨p0, p1, p2, p3⟩, ho⟩ := rA m' (by omega)
      obtain ⟨⟨x, y, z, u⟩, hf⟩ : ∃ q : Ins, f m' = q := ⟨_, rfl⟩
      rw [hf] at p0 p1 p2 p3 ho
      simp only at p0 p1 p2 p3
      have cR := fun V (hK : Kinds V) => returns_any (x, y, z, u) V hK
      have HQ := Lib.hid (show retI (f (k - 1)) = retI (x, y, z, u) by rw [show k - 1 = m' by omega, hf])
      have hmi : (k : Int) - 1 = (m' : Int) := by omega
      have HM := Lib.hid hm'
      have HMI := Lib.hid hmi
      have hlt' : (m' : Int) < k := by omega
      have hx : ¬ (k : Int) < k := by omega
      clear hf hm' hmi
      obtain ⟨t, ht⟩ : ∃ t, retI (x, y, z, u) = t := ⟨_, rfl⟩
      rw [ht] at cR
      have cR' := Lib.hid cR
      have HT := Lib.hid ht
      clear cR ht
      have hmi := HMI.out
      cases t
      · go_wp2_with fail
        refine (cR'.out _ kA).mono ?_
        rintro e w2 ⟨rfl, hb2⟩
        have hB2 := hb.trans (hb2.mono hb.size)
        clear hb2
        go_wp2_with fail
        go_ret2
        have hc := chk_last (f := f) h1 h64 HP.out (by rw [HQ.out, HT.out])
        rw [HR.out] at hc
        injection hc with e1 e2
        subst e1 e2
        exact ⟨by simp [HMI.out], hB2⟩
      · go_wp2_with fail
        refine (cR'.out _ kA).mono ?_
        rintro e w2 ⟨rfl, hb2⟩
        have hB2 := hb.trans (hb2.mono hb.size)
        clear hb2
        go_wp2_with fail
        go_ret2
        have hc := chk_may (f := f) ⟨h1, h64, HP.out, by rw [HQ.out, HT.out]⟩
        rw [HR.out] at hc
        injection hc with e1 e2
        subst e1 e2
        exact ⟨rfl, hB2⟩
theorem check_any (A : Option Addr) (m cap : Nat) (f : Nat → Ins) (w : World) (hK : Kinds w) (hA : Ri w w.heap.size A m f) :
    Calls Tryz.prog 67 #[.slice A m cap] w fun e w' => e = .returned (.tuple #[.int .i64 (chkI f m).1, .int .i64 (chkI f m).2]) ∧ Below w.heap.size w w' := by
  by_cases hs : m < 1 ∨ 64 < m
  · exact check_size A m cap f w hs
  · exact check_in A m cap f w hK hA (by omega) (by omega)
end Go.Proofs.YtelfdpcenplhjaaGreatDoor
