/-
  The reference's One: why an instruction may not stand at a place, of all instructions.
-/
import Derived.Test.YtgepeckdafeedaaDoorCkRefA
import Derived.Test.YtgepeckdafeedaaDoorCkRefB
namespace Go.Proofs.YtgepeckdafeedaaDoor
open Go.RowKit

set_option maxHeartbeats 1000000 in
theorem rone_none (c a b k : Int) (i n : Nat) (w : World) (c0 : 0 ≤ c) (hin : i < n) (hn : n ≤ 1000) (hr : rowC c = none) :
    Calls Tryd.prog 22 #[.agg #[.int .u16 c, .int .u8 a, .int .u8 b, .int .u32 k], .int .i64 i, .int .i64 n] w fun e w' => e = .returned (.int .i64 141) ∧ Below w.heap.size w w' := by
  have hN := fun w => refname_any c w c0
  rw [name_no hr] at hN
  have hn0 : (0 : Int) < n := by omega
  by_cases hl : (i : Int) < (n : Int) - 1
  all_goals
    go_enter Tryd.func22, Tryd.ntmps22
    go_wp2_with fail
    refine (hN _).mono ?_
    rintro e w1 ⟨rfl, hb⟩
    have B1 := ((Below.refl _ w).alloc (Nat.le_refl _) (.cells #[.int .u16 c, .int .u8 a, .int .u8 b, .int .u32 k] 42)).trans (hb.mono (by simp))
    go_wp2_with fail
    go_ret
    exact ⟨rfl, B1⟩

theorem rone_any (q : Ins) (i n : Nat) (w : World) (ho : insO q) (hi : i < n) (hn : n ≤ 1000) :
    Calls Tryd.prog 22 #[valI q, .int .i64 i, .int .i64 n] w fun e w' => e = .returned (.int .i64 (oneL ((n : Int) - 1 - i) q)) ∧ Below w.heap.size w w' := by
  obtain ⟨c, a, b, k⟩ := q
  have ho' : InsOk c a b k := ho
  obtain ⟨c0, c1, a0, a1, b0, b1, k0, k1⟩ := ho'
  have ho' : InsOk c a b k := ho
  have hF : ∀ fm, formOf c = fm → ∀ w, Calls Tryd.prog 33 #[.int .u16 c] w fun e w' => e = .returned (.int .i64 fm) ∧ Below w.heap.size w w' := fun fm h w => by rw [← h]; exact refform_any c w c0
  show Calls Tryd.prog 22 #[.agg #[.int .u16 c, .int .u8 a, .int .u8 b, .int .u32 k], .int .i64 i, .int .i64 n] w fun e w' => e = .returned (.int .i64 (oneL ((n : Int) - 1 - i) (c, a, b, k))) ∧ Below w.heap.size w w'
  cases hr : rowC c with
  | none =>
    rw [show oneL ((n : Int) - 1 - i) (c, a, b, k) = 141 by simp [oneL, hr]]
    exact rone_none c a b k i n w c0 hi hn hr
  | some j =>
    have hN := fun w => refname_any c w c0
    rw [name_fst c (by rw [hr]; simp)] at hN
    have n1 := nm_ld_abs c
    have n2 := nm_div_k c
    have n3 := nm_lsh_k c
    have n4 := nm_rsh_k c
    obtain ⟨s, hs⟩ : ∃ s, (nameOf c).1 = s := ⟨_, rfl⟩
    rw [hs] at hN n1 n2 n3 n4
    clear hs
    have hm : k.tmod 4 = k % 4 := Int.tmod_eq_emod_of_nonneg k0
    by_cases h32 : c = 32
    · have f := form_2.2 h32
      by_cases h4 : k % 4 = 0
      · by_cases h64 : 64 ≤ k
        · rw [show oneL ((n : Int) - 1 - i) (c, a, b, k) = 142 by rw [h32, oneL_32]; simp [h64]]
          exact rone_ld2 c a b k i n 2 s w ho' hi hn hN  rfl (n1.2 h32) h4 (by omega) h64 
        · rw [show oneL ((n : Int) - 1 - i) (c, a, b, k) = 0 by rw [h32, oneL_32]; simp [h4, h64]]
          exact rone_ld3 c a b k i n 2 s w ho' hi hn hN (hF 2 f) rfl (n1.2 h32) h4 (by omega) h64 
      · rw [show oneL ((n : Int) - 1 - i) (c, a, b, k) = 142 by rw [h32, oneL_32]; simp [h4]]
        exact rone_ld1 c a b k i n 2 s w ho' hi hn hN  rfl (n1.2 h32) h4 (by omega) 
    · by_cases h52 : c = 52
      · have f := form_named (.inl h52)
        by_cases h0 : k = 0
        · rw [show oneL ((n : Int) - 1 - i) (c, a, b, k) = 143 by rw [h52, oneL_52]; simp [h0]]
          exact rone_div1 c a b k i n 1 s w ho' hi hn hN  rfl (n2.2 h52) h0 
        · rw [show oneL ((n : Int) - 1 - i) (c, a, b, k) = 0 by rw [h52, oneL_52]; simp [h0]]
          exact rone_div2 c a b k i n 1 s w ho' hi hn hN (hF 1 f) rfl (n2.2 h52) h0 
      · by_cases h100 : c = 100
        · have f := form_named (.inr (.inl h100))
          by_cases h0 : 32 ≤ k
          · rw [show oneL ((n : Int) - 1 - i) (c, a, b, k) = 144 by rw [h100, oneL_100]; simp [h0]]
            exact rone_lsh1 c a b k i n 1 s w ho' hi hn hN  rfl (n3.2 h100) h0 
          · rw [show oneL ((n : Int) - 1 - i) (c, a, b, k) = 0 by rw [h100, oneL_100]; simp [h0]]
            exact rone_lsh2 c a b k i n 1 s w ho' hi hn hN (hF 1 f) rfl (n3.2 h100) h0 
        · by_cases h116 : c = 116
          · have f := form_named (.inr (.inr (.inl h116)))
            by_cases h0 : 32 ≤ k
            · rw [show oneL ((n : Int) - 1 - i) (c, a, b, k) = 144 by rw [h116, oneL_116]; simp [h0]]
              exact rone_rsh1 c a b k i n 1 s w ho' hi hn hN  rfl (n4.2 h116) h0 
            · rw [show oneL ((n : Int) - 1 - i) (c, a, b, k) = 0 by rw [h116, oneL_116]; simp [h0]]
              exact rone_rsh2 c a b k i n 1 s w ho' hi hn hN (hF 1 f) rfl (n4.2 h116) h0 
          · have m1 := fun h => h32 (n1.1 h)
            have m2 := fun h => h52 (n2.1 h)
            have m3 := fun h => h100 (n3.1 h)
            have m4 := fun h => h116 (n4.1 h)
            have hL : oneL ((n : Int) - 1 - i) (c, a, b, k) = if formOf c = 3 then (if 16 ≤ k then 145 else 0) else if formOf c = 4 then (if (n : Int) - 1 - i ≤ k then 146 else 0) else if formOf c = 5 ∨ formOf c = 6 then (if (n : Int) - 1 - i ≤ a ∨ (n : Int) - 1 - i ≤ b then 146 else 0) else 0 := by
              simp only [oneL, hr, h32, h52, h100, h116]; simp
            rw [hL]
            clear hL n1 n2 n3 n4
            by_cases f3 : formOf c = 3
            · rw [if_pos f3]
              by_cases h0 : 16 ≤ k
              · rw [if_pos h0]
                exact rone_mem1 c a b k i n 3 s w ho' hi hn hN (hF 3 f3) rfl m1 m2 m3 m4 h0 
              · rw [if_neg h0]
                exact rone_mem2 c a b k i n 3 s w ho' hi hn hN (hF 3 f3) rfl m1 m2 m3 m4 h0 
            · rw [if_neg f3]
              by_cases f4 : formOf c = 4
              · rw [if_pos f4]
                by_cases h0 : (n : Int) - 1 - i ≤ k
                · rw [if_pos h0]
                  exact rone_ja2 c a b k i n 4 s w ho' hi hn hN (hF 4 f4) rfl m1 m2 m3 m4 (by omega)
                · rw [if_neg h0]
                  exact rone_ja1 c a b k i n 4 s w ho' hi hn hN (hF 4 f4) rfl m1 m2 m3 m4 (by omega)
              · rw [if_neg f4]
                by_cases f5 : formOf c = 5
                · rw [if_pos (.inl f5)]
                  by_cases ha : (n : Int) - 1 - i ≤ a
                  · rw [if_pos (.inl ha)]
                    exact rone_t3 c a b k i n 5 s w ho' hi hn hN (hF 5 f5) rfl m1 m2 m3 m4 (by omega)
                  · by_cases hb : (n : Int) - 1 - i ≤ b
                    · rw [if_pos (.inr hb)]
                      exact rone_t2 c a b k i n 5 s w ho' hi hn hN (hF 5 f5) rfl m1 m2 m3 m4 (by omega) (by omega)
                    · rw [if_neg (by omega)]
                      exact rone_t1 c a b k i n 5 s w ho' hi hn hN (hF 5 f5) rfl m1 m2 m3 m4 (by omega) (by omega)
                · by_cases f6 : formOf c = 6
                  · rw [if_pos (.inr f6)]
                    by_cases ha : (n : Int) - 1 - i ≤ a
                    · rw [if_pos (.inl ha)]
                      exact rone_x3 c a b k i n 6 s w ho' hi hn hN (hF 6 f6) rfl m1 m2 m3 m4 (by omega)
                    · by_cases hb : (n : Int) - 1 - i ≤ b
                      · rw [if_pos (.inr hb)]
                        exact rone_x2 c a b k i n 6 s w ho' hi hn hN (hF 6 f6) rfl m1 m2 m3 m4 (by omega) (by omega)
                      · rw [if_neg (by omega)]
                        exact rone_x1 c a b k i n 6 s w ho' hi hn hN (hF 6 f6) rfl m1 m2 m3 m4 (by omega) (by omega)
                  · rw [if_neg (by omega)]
                    exact rone_un c a b k i n _ s w ho' hi hn hN (hF _ rfl) f3 f4 f5 f6 m1 m2 m3 m4 
end Go.Proofs.YtgepeckdafeedaaDoor
