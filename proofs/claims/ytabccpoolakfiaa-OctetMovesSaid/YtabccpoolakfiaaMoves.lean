/-
  OctetMoves: the walk.
-/
import Derived.Test.YtabccpoolakfiaaMoveParts
import Derived.Test.YtabccpoolakfiaaLooks
namespace Go.Proofs.Ytabccpoolakfiaa
open Go.RowKit

theorem seen_more (l : List Int) (p k : Nat) : l.take p ++ (l.drop p).take k = l.take (p + k) := by rw [List.take_add]

set_option maxRecDepth 100000 in
set_option maxHeartbeats 8000000 in
theorem moves_small (A A2 : Option Addr) (n c m c2 : Nat) (l : List Int) (ls : Nat → Bool × Int) (w : World) (hr : Rd w w.heap.size A n l) (hk : Lk w w.heap.size A2 m ls) (hnc : n ≤ c) (hn : ¬ 2000 < n) (hm : ¬ 150 < m) :
    Calls Try.prog 9 #[.slice A n c, .slice A2 m c2] w fun e w' => e = .returned (.bool true) ∧ Below w.heap.size w w' := by
  go_enter Try.func9, Try.ntmps9
  go_wp2_with fail
  refine (wakes_any w).mono ?_
  rintro e w1 ⟨rfl, b1⟩
  go_wp2_with fail
  have s1 := b1.size
  have K : Lo w w1 w1.heap.size A A2 n m l ls := ⟨(hr.below b1).more s1, fun i hi => by
    obtain ⟨b, off, e, hlt, h1, h2, h3⟩ := (hk.below b1) i hi
    exact ⟨b, off, e, by omega, h1, h2, h3⟩, b1, s1, Nat.le_refl _⟩
  clear hr hk b1
  have hrd0 := read_any A n c l w1 K.a (by omega)
  refine hrd0.mono ?_
  clear hrd0
  rintro e w2 ⟨r, rfl, hr1, hrd, hr4⟩
  have K2 := K.below hr4
  have hr2 := hrd.lt
  have s2 := hr4.size
  clear K hr4
  go_wp2_with fail
  go_loopw [6, 25] (fun sv i wr => ∃ (k p : Nat) (fv : Int) (As : Option Addr) (cs : Nat), k ≤ m ∧ i = .int .i64 k ∧ p ≤ n ∧ sv = .slice As p cs ∧ Ow wr w2.heap.size As p cs (l.take p) ∧ Rdr wr r (l.drop p) fv ∧ Lo w wr w1.heap.size A A2 n m l ls ∧ w2.heap.size ≤ wr.heap.size) (fun _ i _ => m - (intOf i).toNat)
  case atStart => exact ⟨0, 0, 0, none, 0, Nat.zero_le _, rfl, Nat.zero_le _, rfl, Ow.nil _ _, by simpa using hrd, K2, Nat.le_refl _⟩
  case round =>
    clear hrd K2
    obtain ⟨k, p, fv, As, cs, hk, rfl, hp, rfl, hown, hrd, K, hsz⟩ := hrel
    by_cases hlt : k < m
    · obtain ⟨b2, o2, rfl, _, cN, cV, wfN⟩ := K.k k hlt
      obtain ⟨q, hq⟩ : ∃ q, q = ls k := ⟨_, rfl⟩
      rw [← hq] at cN cV wfN
      clear hq
      obtain ⟨nb, N⟩ := q
      simp only at cN cV wfN
      have hkm : (k : Int) < m := by omega
      have hlR : (l.drop p).length = n - p := by rw [List.length_drop, K.a.len]
      obtain ⟨R, hR⟩ : ∃ R, R = l.drop p := ⟨_, rfl⟩
      rw [← hR] at hrd hlR
      have HR := Lib.hid hR
      have HLR := Lib.hid hlR
      obtain ⟨v0, hv0⟩ : ∃ v : Int, v = (n : Int) - p := ⟨_, rfl⟩
      have hv0a : 0 ≤ v0 := by omega
      have hv0b : v0 ≤ 2000 := by omega
      have HV0 := Lib.hid (show ((R.length : Nat) : Int) = v0 by rw [hlR]; omega)
      have HS0 : ((p : Int) + v0 != n) = false := by simp; omega
      have HV := Lib.hid hv0
      clear hR hlR hv0
      -- CASES
      cases nb
      · by_cases hf : fv = 0
        · subst hf
          by_cases hneg : N < 0
          · have E1 := Lib.hid (show seenI R 0 N = [] by simp [seenI, hneg])
            have E2 := Lib.hid (show leftI R 0 N = R by simp [leftI, hneg])
            have E3 := Lib.hid (show faltI R 0 N = 2 by simp [faltI, hneg])
            go_wp2_with fail
            have g1 := left_at r R 0 v0 (wr.alloc (.cells #[.bool false, .int .i64 N] 41)) (hrd.below ((Below.refl _ _).alloc (Nat.le_refl _) _) hrd.lt) HV0.out
            refine g1.mono ?_
            clear g1
            rintro e w' ⟨rfl, rfl⟩
            have KA := K.below ((Below.refl _ _).alloc K.hi (.cells #[.bool false, .int .i64 N] 41))
            have hownA := hown.alloc (.cells #[.bool false, .int .i64 N] 41)
            have hrdA := hrd.below ((Below.refl wr.heap.size wr).alloc (Nat.le_refl _) (.cells #[.bool false, .int .i64 N] 41)) hrd.lt
            go_wp2_with fail
            have g2 := raw_at r N R 0 _ hrdA [] R 2 0 E1.out E2.out E3.out rfl
            refine g2.mono ?_
            clear g2
            rintro e w5 ⟨A1, c1, rfl, h1, h2, h3⟩
            have hsz5 := h3.size
            simp only [World.size_alloc] at hsz5
            have K5 := KA.below (h3.below _ hr1 KA.hi)
            have ow5 := hownA.but h3 hr2
            have hb5 : w2.heap.size ≤ w5.heap.size := by omega
            go_wp2_with fail
            have g4 := left_at r R 2 v0 w5 h2 HV0.out
            refine g4.mono ?_
            clear g4
            rintro e w' ⟨rfl, rfl⟩
            go_wp2_with fail
            have cz : (w5.alloc (.cells #[.int .u8 0] 5)).cell? ⟨w5.heap.size, 0, none⟩ = some (.int .u8 0) := (built_one w5 0 (by omega) (by omega)).cell0
            have g5 := count_any A1 0 c1 w5.heap.size w5.heap.size 1 (w5.alloc (.cells #[.int .u8 0] 5)) (h1.alloc_ (Nat.le_refl _) _) cz
            refine g5.mono ?_
            clear g5 cz
            rintro e w' ⟨rfl, rfl⟩
            have K6 := K5.below ((Below.refl _ _).alloc K5.hi (.cells #[.int .u8 0] 5))
            have h6 := h2.below ((Below.refl w5.heap.size w5).alloc (Nat.le_refl _) (.cells #[.int .u8 0] 5)) h2.lt
            have ow6 := ow5.alloc (.cells #[.int .u8 0] 5)
            have hb6 : w2.heap.size ≤ (w5.alloc (.cells #[.int .u8 0] 5)).heap.size := by simp; omega
            clear ow5 h1 h2 K5
            go_wp2_with fail
            have g6 := left_at r R 2 v0 _ h6 HV0.out
            refine g6.mono ?_
            clear g6
            rintro e w' ⟨rfl, rfl⟩
            go_wp2_with fail
            have g7 := prefix_any A As n c p cs _ _ l _ K6.a ow6.rd hp hnc
            refine g7.mono ?_
            clear g7
            rintro e w' ⟨rfl, rfl⟩
            go_wp2
            go_roundw
            case rel => exact ⟨k + 1, p, 2, As, cs, by omega, by go_num, hp, rfl, ow6, (by rw [HR.out] at h6; exact h6), K6, hb6⟩
            case measure => simp [intOf]; omega
          · by_cases hbig : (n : Int) - p < N
            · have hNl : ¬ N.toNat ≤ R.length := by rw [HLR.out]; omega
              have E1 := Lib.hid (show seenI R 0 N = [] by simp [seenI, seen, hneg, hNl])
              have E2 := Lib.hid (show leftI R 0 N = R by simp [leftI, left, hneg, hNl])
              have E3 := Lib.hid (show faltI R 0 N = 7 by simp [faltI, falt, hneg, hNl])
              clear hNl
              go_wp2_with fail
              have g1 := left_at r R 0 v0 (wr.alloc (.cells #[.bool false, .int .i64 N] 41)) (hrd.below ((Below.refl _ _).alloc (Nat.le_refl _) _) hrd.lt) HV0.out
              refine g1.mono ?_
              clear g1
              rintro e w' ⟨rfl, rfl⟩
              have KA := K.below ((Below.refl _ _).alloc K.hi (.cells #[.bool false, .int .i64 N] 41))
              have hownA := hown.alloc (.cells #[.bool false, .int .i64 N] 41)
              have hrdA := hrd.below ((Below.refl wr.heap.size wr).alloc (Nat.le_refl _) (.cells #[.bool false, .int .i64 N] 41)) hrd.lt
              go_wp2_with fail
              have g2 := raw_at r N R 0 _ hrdA [] R 7 0 E1.out E2.out E3.out rfl
              refine g2.mono ?_
              clear g2
              rintro e w5 ⟨A1, c1, rfl, h1, h2, h3⟩
              have hsz5 := h3.size
              simp only [World.size_alloc] at hsz5
              have K5 := KA.below (h3.below _ hr1 KA.hi)
              have ow5 := hownA.but h3 hr2
              have hb5 : w2.heap.size ≤ w5.heap.size := by omega
              go_wp2_with fail
              have g4 := left_at r R 7 v0 w5 h2 HV0.out
              refine g4.mono ?_
              clear g4
              rintro e w' ⟨rfl, rfl⟩
              go_wp2_with fail
              have cz : (w5.alloc (.cells #[.int .u8 0] 5)).cell? ⟨w5.heap.size, 0, none⟩ = some (.int .u8 0) := (built_one w5 0 (by omega) (by omega)).cell0
              have g5 := count_any A1 0 c1 w5.heap.size w5.heap.size 1 (w5.alloc (.cells #[.int .u8 0] 5)) (h1.alloc_ (Nat.le_refl _) _) cz
              refine g5.mono ?_
              clear g5 cz
              rintro e w' ⟨rfl, rfl⟩
              have K6 := K5.below ((Below.refl _ _).alloc K5.hi (.cells #[.int .u8 0] 5))
              have h6 := h2.below ((Below.refl w5.heap.size w5).alloc (Nat.le_refl _) (.cells #[.int .u8 0] 5)) h2.lt
              have ow6 := ow5.alloc (.cells #[.int .u8 0] 5)
              have hb6 : w2.heap.size ≤ (w5.alloc (.cells #[.int .u8 0] 5)).heap.size := by simp; omega
              clear ow5 h1 h2 K5
              go_wp2_with fail
              have g6 := left_at r R 7 v0 _ h6 HV0.out
              refine g6.mono ?_
              clear g6
              rintro e w' ⟨rfl, rfl⟩
              go_wp2_with fail
              have g7 := prefix_any A As n c p cs _ _ l _ K6.a ow6.rd hp hnc
              refine g7.mono ?_
              clear g7
              rintro e w' ⟨rfl, rfl⟩
              go_wp2
              go_roundw
              case rel => exact ⟨k + 1, p, 7, As, cs, by omega, by go_num, hp, rfl, ow6, (by rw [HR.out] at h6; exact h6), K6, hb6⟩
              case measure => simp [intOf]; omega
            · by_cases hz0 : N ≤ 0
              · obtain rfl : N = 0 := by omega
                have E1 := Lib.hid (show seenI R 0 0 = [] by simp [seenI, seen])
                have E2 := Lib.hid (show leftI R 0 0 = R by simp [leftI, left])
                have E3 := Lib.hid (show faltI R 0 0 = 0 by simp [faltI, falt])
                go_wp2_with fail
                have g1 := left_at r R 0 v0 (wr.alloc (.cells #[.bool false, .int .i64 0] 41)) (hrd.below ((Below.refl _ _).alloc (Nat.le_refl _) _) hrd.lt) HV0.out
                refine g1.mono ?_
                clear g1
                rintro e w' ⟨rfl, rfl⟩
                have KA := K.below ((Below.refl _ _).alloc K.hi (.cells #[.bool false, .int .i64 0] 41))
                have hownA := hown.alloc (.cells #[.bool false, .int .i64 0] 41)
                have hrdA := hrd.below ((Below.refl wr.heap.size wr).alloc (Nat.le_refl _) (.cells #[.bool false, .int .i64 0] 41)) hrd.lt
                go_wp2_with fail
                have g2 := raw_at r 0 R 0 _ hrdA [] R 0 0 E1.out E2.out E3.out rfl
                refine g2.mono ?_
                clear g2
                rintro e w5 ⟨A1, c1, rfl, h1, h2, h3⟩
                have hsz5 := h3.size
                simp only [World.size_alloc] at hsz5
                have K5 := KA.below (h3.below _ hr1 KA.hi)
                have ow5 := hownA.but h3 hr2
                have hb5 : w2.heap.size ≤ w5.heap.size := by omega
                go_wp2_with fail
                have g4 := left_at r R 0 v0 w5 h2 HV0.out
                refine g4.mono ?_
                clear g4
                rintro e w' ⟨rfl, rfl⟩
                go_wp2_with fail
                have cz : (w5.alloc (.cells #[.int .u8 0] 5)).cell? ⟨w5.heap.size, 0, none⟩ = some (.int .u8 0) := (built_one w5 0 (by omega) (by omega)).cell0
                have g5 := count_any A1 0 c1 w5.heap.size w5.heap.size 1 (w5.alloc (.cells #[.int .u8 0] 5)) (h1.alloc_ (Nat.le_refl _) _) cz
                refine g5.mono ?_
                clear g5 cz
                rintro e w' ⟨rfl, rfl⟩
                have K6 := K5.below ((Below.refl _ _).alloc K5.hi (.cells #[.int .u8 0] 5))
                have h6 := h2.below ((Below.refl w5.heap.size w5).alloc (Nat.le_refl _) (.cells #[.int .u8 0] 5)) h2.lt
                have ow6 := ow5.alloc (.cells #[.int .u8 0] 5)
                have hb6 : w2.heap.size ≤ (w5.alloc (.cells #[.int .u8 0] 5)).heap.size := by simp; omega
                clear ow5 h1 h2 K5
                go_wp2_with fail
                have g6 := left_at r R 0 v0 _ h6 HV0.out
                refine g6.mono ?_
                clear g6
                rintro e w' ⟨rfl, rfl⟩
                go_wp2_with fail
                have g7 := prefix_any A As n c p cs _ _ l _ K6.a ow6.rd hp hnc
                refine g7.mono ?_
                clear g7
                rintro e w' ⟨rfl, rfl⟩
                go_wp2
                go_roundw
                case rel => exact ⟨k + 1, p, 0, As, cs, by omega, by go_num, hp, rfl, ow6, (by rw [HR.out] at h6; exact h6), K6, hb6⟩
                case measure => simp [intOf]; omega
              · obtain ⟨kk, rfl⟩ := Int.eq_ofNat_of_zero_le (show 0 ≤ N by omega)
                have hkR : kk ≤ R.length := by rw [HLR.out]; omega
                have hk0 : ¬ ((kk : Int) < 0) := by omega
                have E1 := Lib.hid (show seenI R 0 kk = R.take kk by simp [seenI, seen, hkR, hk0])
                have E2 := Lib.hid (show leftI R 0 kk = R.drop kk by simp [leftI, left, hkR, hk0])
                have E3 := Lib.hid (show faltI R 0 kk = 0 by simp [faltI, falt, hkR, hk0])
                have HK := Lib.hid (show (R.take kk).length = kk by rw [List.length_take]; omega)
                obtain ⟨v1, hv1⟩ : ∃ v : Int, v = (n : Int) - (p + kk) := ⟨_, rfl⟩
                have hpk : p + kk ≤ n := by have := HLR.out; omega
                have hv1a : 0 ≤ v1 := by omega
                have hv1b : v1 ≤ 2000 := by omega
                have hv01 : v1 < v0 := by have := HV.out; omega
                have HV1 := Lib.hid (show (((R.drop kk).length : Nat) : Int) = v1 by rw [List.length_drop, HLR.out]; omega)
                have HS1 : ((p : Int) + kk + v1 != n) = false := by simp; omega
                clear hv1
                go_wp2_with fail
                have g1 := left_at r R 0 v0 (wr.alloc (.cells #[.bool false, .int .i64 kk] 41)) (hrd.below ((Below.refl _ _).alloc (Nat.le_refl _) _) hrd.lt) HV0.out
                refine g1.mono ?_
                clear g1
                rintro e w' ⟨rfl, rfl⟩
                have KA := K.below ((Below.refl _ _).alloc K.hi (.cells #[.bool false, .int .i64 kk] 41))
                have hownA := hown.alloc (.cells #[.bool false, .int .i64 kk] 41)
                have hrdA := hrd.below ((Below.refl wr.heap.size wr).alloc (Nat.le_refl _) (.cells #[.bool false, .int .i64 kk] 41)) hrd.lt
                go_wp2_with fail
                have g2 := raw_at r kk R 0 _ hrdA (R.take kk) (R.drop kk) 0 kk E1.out E2.out E3.out HK.out
                refine g2.mono ?_
                clear g2
                rintro e w5 ⟨A1, c1, rfl, h1, h2, h3⟩
                have hsz5 := h3.size
                simp only [World.size_alloc] at hsz5
                have K5 := KA.below (h3.below _ hr1 KA.hi)
                have ow5 := hownA.but h3 hr2
                have hb5 : w2.heap.size ≤ w5.heap.size := by omega
                go_wp2_with fail
                have g4 := left_at r (R.drop kk) 0 v1 w5 h2 HV1.out
                refine g4.mono ?_
                clear g4
                rintro e w' ⟨rfl, rfl⟩
                have hq6 : p + kk ≤ 1000000 := by omega
                go_wp2_with (first
                  | (at_builtin; refine wpList_append_bytes rfl (.tmp 55) (.tmp 56) rfl w2.heap.size As p cs (l.take p) rfl ow5 w5.heap.size A1 kk c1 (R.take kk) rfl h1 hq6 hb5 ?_; intro A3 c3 w6 ow6 b6))
                rw [HR.out, seen_more] at ow6
                have K6 := K5.below (b6.mono s2)
                have h6 := h2.below b6 hr2
                have hb6 := Nat.le_trans hb5 b6.size
                clear ow5 h1 h2 K5 b6
                have g6 := left_at r (R.drop kk) 0 v1 _ h6 HV1.out
                refine g6.mono ?_
                clear g6
                rintro e w' ⟨rfl, rfl⟩
                go_wp2_with fail
                have g7 := prefix_any A A3 n c (p + kk) c3 _ _ l _ K6.a ow6.rd hpk hnc
                refine g7.mono ?_
                clear g7
                rintro e w' ⟨rfl, rfl⟩
                go_wp2
                go_roundw
                case rel => exact ⟨k + 1, (p + kk), 0, A3, c3, by omega, by go_num, hpk, rfl, ow6, (by rw [HR.out, List.drop_drop] at h6; exact h6), K6, hb6⟩
                case measure => simp [intOf]; omega
        · have E1 := Lib.hid (show seenI R fv N = [] by simp [seenI, seen, hf])
          have E2 := Lib.hid (show leftI R fv N = R by simp [leftI, left, hf])
          have E3 := Lib.hid (show faltI R fv N = fv by simp [faltI, falt, hf])
          clear hf
          go_wp2_with fail
          have g1 := left_at r R fv v0 (wr.alloc (.cells #[.bool false, .int .i64 N] 41)) (hrd.below ((Below.refl _ _).alloc (Nat.le_refl _) _) hrd.lt) HV0.out
          refine g1.mono ?_
          clear g1
          rintro e w' ⟨rfl, rfl⟩
          have KA := K.below ((Below.refl _ _).alloc K.hi (.cells #[.bool false, .int .i64 N] 41))
          have hownA := hown.alloc (.cells #[.bool false, .int .i64 N] 41)
          have hrdA := hrd.below ((Below.refl wr.heap.size wr).alloc (Nat.le_refl _) (.cells #[.bool false, .int .i64 N] 41)) hrd.lt
          go_wp2_with fail
          have g2 := raw_at r N R fv _ hrdA [] R fv 0 E1.out E2.out E3.out rfl
          refine g2.mono ?_
          clear g2
          rintro e w5 ⟨A1, c1, rfl, h1, h2, h3⟩
          have hsz5 := h3.size
          simp only [World.size_alloc] at hsz5
          have K5 := KA.below (h3.below _ hr1 KA.hi)
          have ow5 := hownA.but h3 hr2
          have hb5 : w2.heap.size ≤ w5.heap.size := by omega
          go_wp2_with fail
          have g4 := left_at r R fv v0 w5 h2 HV0.out
          refine g4.mono ?_
          clear g4
          rintro e w' ⟨rfl, rfl⟩
          go_wp2_with fail
          have cz : (w5.alloc (.cells #[.int .u8 0] 5)).cell? ⟨w5.heap.size, 0, none⟩ = some (.int .u8 0) := (built_one w5 0 (by omega) (by omega)).cell0
          have g5 := count_any A1 0 c1 w5.heap.size w5.heap.size 1 (w5.alloc (.cells #[.int .u8 0] 5)) (h1.alloc_ (Nat.le_refl _) _) cz
          refine g5.mono ?_
          clear g5 cz
          rintro e w' ⟨rfl, rfl⟩
          have K6 := K5.below ((Below.refl _ _).alloc K5.hi (.cells #[.int .u8 0] 5))
          have h6 := h2.below ((Below.refl w5.heap.size w5).alloc (Nat.le_refl _) (.cells #[.int .u8 0] 5)) h2.lt
          have ow6 := ow5.alloc (.cells #[.int .u8 0] 5)
          have hb6 : w2.heap.size ≤ (w5.alloc (.cells #[.int .u8 0] 5)).heap.size := by simp; omega
          clear ow5 h1 h2 K5
          go_wp2_with fail
          have g6 := left_at r R fv v0 _ h6 HV0.out
          refine g6.mono ?_
          clear g6
          rintro e w' ⟨rfl, rfl⟩
          go_wp2_with fail
          have g7 := prefix_any A As n c p cs _ _ l _ K6.a ow6.rd hp hnc
          refine g7.mono ?_
          clear g7
          rintro e w' ⟨rfl, rfl⟩
          go_wp2
          go_roundw
          case rel => exact ⟨k + 1, p, fv, As, cs, by omega, by go_num, hp, rfl, ow6, (by rw [HR.out] at h6; exact h6), K6, hb6⟩
          case measure => simp [intOf]; omega
      · have hq0 : 0 ≤ IntKind.u64.wrap N := by rw [IntKind.wrap_u64]; omega
        rcases (show IntKind.u64.wrap N % 2 = 0 ∨ IntKind.u64.wrap N % 2 = 1 by omega) with hq2 | hq2
        · by_cases hf : fv = 0
          · subst hf
            by_cases hbig : (n : Int) - p < 2
            · have hNl : ¬ 2 ≤ R.length := by rw [HLR.out]; omega
              have E1 := Lib.hid (show numL (seen R 0 2) = 0 by simp [seen, hNl, numL])
              have E2 := Lib.hid (show left R 0 2 = R by simp [left, hNl])
              have E3 := Lib.hid (show falt R 0 2 = 7 by simp [falt, hNl])
              clear hNl
              go_wp2_with fail
              have g1 := left_at r R 0 v0 (wr.alloc (.cells #[.bool true, .int .i64 N] 41)) (hrd.below ((Below.refl _ _).alloc (Nat.le_refl _) _) hrd.lt) HV0.out
              refine g1.mono ?_
              clear g1
              rintro e w' ⟨rfl, rfl⟩
              have KA := K.below ((Below.refl _ _).alloc K.hi (.cells #[.bool true, .int .i64 N] 41))
              have hownA := hown.alloc (.cells #[.bool true, .int .i64 N] 41)
              have hrdA := hrd.below ((Below.refl wr.heap.size wr).alloc (Nat.le_refl _) (.cells #[.bool true, .int .i64 N] 41)) hrd.lt
              go_wp2_with fail
              have g2 := u16_at' r R 0 _ hrdA 0 R 7 E1.out E2.out E3.out
              refine g2.mono ?_
              clear g2
              rintro e w4 ⟨rfl, h2', h3⟩
              have hsz4 := h3.size
              simp only [World.size_alloc] at hsz4
              have K4 := KA.below (h3.below _ hr1 KA.hi)
              have ow4 := hownA.but h3 hr2
              go_wp2_with fail
              have g3 := put16_any none 0 0 [] 0 (by omega) (by omega) w4 Rd.nil (by omega)
              refine g3.mono ?_
              clear g3
              rintro e w5 ⟨rfl, h1', bp⟩
              rw [List.nil_append] at h1'
              have hsz5 := Nat.le_trans hsz4 bp.size
              have K5 := K4.below (bp.mono K4.hi)
              have ow5 := ow4.below bp
              have h2 := h2'.below bp h2'.lt
              have h0 : low 0 2 = List.replicate 2 0 := by decide
              rw [h0] at h1'
              clear h0
              have h1 := h1'.rd_w (n := 2) (by simp)
              clear h1' K4 ow4 h2' bp h3
              have hb5 : w2.heap.size ≤ w5.heap.size := by omega
              go_wp2_with fail
              have g4 := left_at r R 7 v0 w5 h2 HV0.out
              refine g4.mono ?_
              clear g4
              rintro e w' ⟨rfl, rfl⟩
              go_wp2_with fail
              have cz : (w5.alloc (.cells #[.int .u8 0] 5)).cell? ⟨w5.heap.size, 0, none⟩ = some (.int .u8 0) := (built_one w5 0 (by omega) (by omega)).cell0
              have g5 := count_any (some ⟨w4.heap.size, 0, none⟩) 2 2 w5.heap.size w5.heap.size 1 (w5.alloc (.cells #[.int .u8 0] 5)) (h1.alloc_ (Nat.le_refl _) _) cz
              refine g5.mono ?_
              clear g5 cz
              rintro e w' ⟨rfl, rfl⟩
              have K6 := K5.below ((Below.refl _ _).alloc K5.hi (.cells #[.int .u8 0] 5))
              have h6 := h2.below ((Below.refl w5.heap.size w5).alloc (Nat.le_refl _) (.cells #[.int .u8 0] 5)) h2.lt
              have ow6 := ow5.alloc (.cells #[.int .u8 0] 5)
              have hb6 : w2.heap.size ≤ (w5.alloc (.cells #[.int .u8 0] 5)).heap.size := by simp; omega
              clear ow5 h1 h2 K5
              go_wp2_with fail
              have g6 := left_at r R 7 v0 _ h6 HV0.out
              refine g6.mono ?_
              clear g6
              rintro e w' ⟨rfl, rfl⟩
              go_wp2_with fail
              have g7 := prefix_any A As n c p cs _ _ l _ K6.a ow6.rd hp hnc
              refine g7.mono ?_
              clear g7
              rintro e w' ⟨rfl, rfl⟩
              go_wp2
              go_roundw
              case rel => exact ⟨k + 1, p, 7, As, cs, by omega, by go_num, hp, rfl, ow6, (by rw [HR.out] at h6; exact h6), K6, hb6⟩
              case measure => simp [intOf]; omega
            · have hkR : 2 ≤ R.length := by rw [HLR.out]; omega
              obtain ⟨X, hX⟩ : ∃ X, X = numL (R.take 2) := ⟨_, rfl⟩
              have hBy : Byt (R.take 2) := hrd.byt.take _
              have hXb := numL_bd hBy
              rw [List.length_take, Nat.min_eq_left hkR, ← hX] at hXb
              have HX := Lib.hid (show low X 2 = R.take 2 by have h9 := low_numL hBy; rw [List.length_take, Nat.min_eq_left hkR, ← hX] at h9; exact h9)
              have hXb1 : X ≤ 65535 := by have h4 : (256 : Int) ^ 2 = 65536 := (by decide); omega
              have hXb0 : 0 ≤ X := hXb.1
              have E1 := Lib.hid (show numL (seen R 0 2) = X by rw [hX]; simp [seen, hkR])
              have E2 := Lib.hid (show left R 0 2 = R.drop 2 by simp [left, hkR])
              have E3 := Lib.hid (show falt R 0 2 = 0 by simp [falt, hkR])
              clear hX hBy hXb
              obtain ⟨v1, hv1⟩ : ∃ v : Int, v = (n : Int) - (p + 2) := ⟨_, rfl⟩
              have hpk : p + 2 ≤ n := by have := HLR.out; omega
              have hv1a : 0 ≤ v1 := by omega
              have hv1b : v1 ≤ 2000 := by omega
              have hv01 : v1 < v0 := by have := HV.out; omega
              have HV1 := Lib.hid (show (((R.drop 2).length : Nat) : Int) = v1 by rw [List.length_drop, HLR.out]; omega)
              have HS1 : ((p : Int) + 2 + v1 != n) = false := by simp; omega
              clear hv1
              go_wp2_with fail
              have g1 := left_at r R 0 v0 (wr.alloc (.cells #[.bool true, .int .i64 N] 41)) (hrd.below ((Below.refl _ _).alloc (Nat.le_refl _) _) hrd.lt) HV0.out
              refine g1.mono ?_
              clear g1
              rintro e w' ⟨rfl, rfl⟩
              have KA := K.below ((Below.refl _ _).alloc K.hi (.cells #[.bool true, .int .i64 N] 41))
              have hownA := hown.alloc (.cells #[.bool true, .int .i64 N] 41)
              have hrdA := hrd.below ((Below.refl wr.heap.size wr).alloc (Nat.le_refl _) (.cells #[.bool true, .int .i64 N] 41)) hrd.lt
              go_wp2_with fail
              have g2 := u16_at' r R 0 _ hrdA X (R.drop 2) 0 E1.out E2.out E3.out
              refine g2.mono ?_
              clear g2
              rintro e w4 ⟨rfl, h2', h3⟩
              have hsz4 := h3.size
              simp only [World.size_alloc] at hsz4
              have K4 := KA.below (h3.below _ hr1 KA.hi)
              have ow4 := hownA.but h3 hr2
              go_wp2_with fail
              have g3 := put16_any none 0 0 [] X hXb0 hXb1 w4 Rd.nil (by omega)
              refine g3.mono ?_
              clear g3
              rintro e w5 ⟨rfl, h1', bp⟩
              rw [List.nil_append] at h1'
              have hsz5 := Nat.le_trans hsz4 bp.size
              have K5 := K4.below (bp.mono K4.hi)
              have ow5 := ow4.below bp
              have h2 := h2'.below bp h2'.lt
              rw [HX.out] at h1'
              have h1 := h1'.rd_w (n := 2) (by rw [List.length_take]; omega)
              clear h1' K4 ow4 h2' bp h3
              have hb5 : w2.heap.size ≤ w5.heap.size := by omega
              go_wp2_with fail
              have g4 := left_at r (R.drop 2) 0 v1 w5 h2 HV1.out
              refine g4.mono ?_
              clear g4
              rintro e w' ⟨rfl, rfl⟩
              have hq6 : p + 2 ≤ 1000000 := by omega
              go_wp2_with (first
                | (at_builtin; refine wpList_append_bytes rfl (.tmp 55) (.tmp 56) rfl w2.heap.size As p cs (l.take p) rfl ow5 w5.heap.size (some ⟨w4.heap.size, 0, none⟩) 2 2 (R.take 2) rfl h1 hq6 hb5 ?_; intro A3 c3 w6 ow6 b6))
              rw [HR.out, seen_more] at ow6
              have K6 := K5.below (b6.mono s2)
              have h6 := h2.below b6 hr2
              have hb6 := Nat.le_trans hb5 b6.size
              clear ow5 h1 h2 K5 b6
              have g6 := left_at r (R.drop 2) 0 v1 _ h6 HV1.out
              refine g6.mono ?_
              clear g6
              rintro e w' ⟨rfl, rfl⟩
              go_wp2_with fail
              have g7 := prefix_any A A3 n c (p + 2) c3 _ _ l _ K6.a ow6.rd hpk hnc
              refine g7.mono ?_
              clear g7
              rintro e w' ⟨rfl, rfl⟩
              go_wp2
              go_roundw
              case rel => exact ⟨k + 1, (p + 2), 0, A3, c3, by omega, by go_num, hpk, rfl, ow6, (by rw [HR.out, List.drop_drop] at h6; exact h6), K6, hb6⟩
              case measure => simp [intOf]; omega
          · have E1 := Lib.hid (show numL (seen R fv 2) = 0 by simp [seen, hf, numL])
            have E2 := Lib.hid (show left R fv 2 = R by simp [left, hf])
            have E3 := Lib.hid (show falt R fv 2 = fv by simp [falt, hf])
            clear hf
            go_wp2_with fail
            have g1 := left_at r R fv v0 (wr.alloc (.cells #[.bool true, .int .i64 N] 41)) (hrd.below ((Below.refl _ _).alloc (Nat.le_refl _) _) hrd.lt) HV0.out
            refine g1.mono ?_
            clear g1
            rintro e w' ⟨rfl, rfl⟩
            have KA := K.below ((Below.refl _ _).alloc K.hi (.cells #[.bool true, .int .i64 N] 41))
            have hownA := hown.alloc (.cells #[.bool true, .int .i64 N] 41)
            have hrdA := hrd.below ((Below.refl wr.heap.size wr).alloc (Nat.le_refl _) (.cells #[.bool true, .int .i64 N] 41)) hrd.lt
            go_wp2_with fail
            have g2 := u16_at' r R fv _ hrdA 0 R fv E1.out E2.out E3.out
            refine g2.mono ?_
            clear g2
            rintro e w4 ⟨rfl, h2', h3⟩
            have hsz4 := h3.size
            simp only [World.size_alloc] at hsz4
            have K4 := KA.below (h3.below _ hr1 KA.hi)
            have ow4 := hownA.but h3 hr2
            go_wp2_with fail
            have g3 := put16_any none 0 0 [] 0 (by omega) (by omega) w4 Rd.nil (by omega)
            refine g3.mono ?_
            clear g3
            rintro e w5 ⟨rfl, h1', bp⟩
            rw [List.nil_append] at h1'
            have hsz5 := Nat.le_trans hsz4 bp.size
            have K5 := K4.below (bp.mono K4.hi)
            have ow5 := ow4.below bp
            have h2 := h2'.below bp h2'.lt
            have h0 : low 0 2 = List.replicate 2 0 := by decide
            rw [h0] at h1'
            clear h0
            have h1 := h1'.rd_w (n := 2) (by simp)
            clear h1' K4 ow4 h2' bp h3
            have hb5 : w2.heap.size ≤ w5.heap.size := by omega
            go_wp2_with fail
            have g4 := left_at r R fv v0 w5 h2 HV0.out
            refine g4.mono ?_
            clear g4
            rintro e w' ⟨rfl, rfl⟩
            go_wp2_with fail
            have cz : (w5.alloc (.cells #[.int .u8 0] 5)).cell? ⟨w5.heap.size, 0, none⟩ = some (.int .u8 0) := (built_one w5 0 (by omega) (by omega)).cell0
            have g5 := count_any (some ⟨w4.heap.size, 0, none⟩) 2 2 w5.heap.size w5.heap.size 1 (w5.alloc (.cells #[.int .u8 0] 5)) (h1.alloc_ (Nat.le_refl _) _) cz
            refine g5.mono ?_
            clear g5 cz
            rintro e w' ⟨rfl, rfl⟩
            have K6 := K5.below ((Below.refl _ _).alloc K5.hi (.cells #[.int .u8 0] 5))
            have h6 := h2.below ((Below.refl w5.heap.size w5).alloc (Nat.le_refl _) (.cells #[.int .u8 0] 5)) h2.lt
            have ow6 := ow5.alloc (.cells #[.int .u8 0] 5)
            have hb6 : w2.heap.size ≤ (w5.alloc (.cells #[.int .u8 0] 5)).heap.size := by simp; omega
            clear ow5 h1 h2 K5
            go_wp2_with fail
            have g6 := left_at r R fv v0 _ h6 HV0.out
            refine g6.mono ?_
            clear g6
            rintro e w' ⟨rfl, rfl⟩
            go_wp2_with fail
            have g7 := prefix_any A As n c p cs _ _ l _ K6.a ow6.rd hp hnc
            refine g7.mono ?_
            clear g7
            rintro e w' ⟨rfl, rfl⟩
            go_wp2
            go_roundw
            case rel => exact ⟨k + 1, p, fv, As, cs, by omega, by go_num, hp, rfl, ow6, (by rw [HR.out] at h6; exact h6), K6, hb6⟩
            case measure => simp [intOf]; omega
        · by_cases hf : fv = 0
          · subst hf
            by_cases hbig : (n : Int) - p < 8
            · have hNl : ¬ 8 ≤ R.length := by rw [HLR.out]; omega
              have E1 := Lib.hid (show numL (seen R 0 8) = 0 by simp [seen, hNl, numL])
              have E2 := Lib.hid (show left R 0 8 = R by simp [left, hNl])
              have E3 := Lib.hid (show falt R 0 8 = 7 by simp [falt, hNl])
              clear hNl
              go_wp2_with fail
              have g1 := left_at r R 0 v0 (wr.alloc (.cells #[.bool true, .int .i64 N] 41)) (hrd.below ((Below.refl _ _).alloc (Nat.le_refl _) _) hrd.lt) HV0.out
              refine g1.mono ?_
              clear g1
              rintro e w' ⟨rfl, rfl⟩
              have KA := K.below ((Below.refl _ _).alloc K.hi (.cells #[.bool true, .int .i64 N] 41))
              have hownA := hown.alloc (.cells #[.bool true, .int .i64 N] 41)
              have hrdA := hrd.below ((Below.refl wr.heap.size wr).alloc (Nat.le_refl _) (.cells #[.bool true, .int .i64 N] 41)) hrd.lt
              go_wp2_with fail
              have g2 := u64_at' r R 0 _ hrdA 0 R 7 E1.out E2.out E3.out
              refine g2.mono ?_
              clear g2
              rintro e w4 ⟨rfl, h2', h3⟩
              have hsz4 := h3.size
              simp only [World.size_alloc] at hsz4
              have K4 := KA.below (h3.below _ hr1 KA.hi)
              have ow4 := hownA.but h3 hr2
              go_wp2_with fail
              have g3 := put64_any none 0 0 [] 0 w4 Rd.nil (by omega)
              refine g3.mono ?_
              clear g3
              rintro e w5 ⟨rfl, h1', bp⟩
              rw [List.nil_append] at h1'
              have hsz5 := Nat.le_trans hsz4 bp.size
              have K5 := K4.below (bp.mono K4.hi)
              have ow5 := ow4.below bp
              have h2 := h2'.below bp h2'.lt
              have h0 : low 0 8 = List.replicate 8 0 := by decide
              rw [h0] at h1'
              clear h0
              have h1 := h1'.rd_w (n := 8) (by simp)
              clear h1' K4 ow4 h2' bp h3
              have hb5 : w2.heap.size ≤ w5.heap.size := by omega
              go_wp2_with fail
              have g4 := left_at r R 7 v0 w5 h2 HV0.out
              refine g4.mono ?_
              clear g4
              rintro e w' ⟨rfl, rfl⟩
              go_wp2_with fail
              have cz : (w5.alloc (.cells #[.int .u8 0] 5)).cell? ⟨w5.heap.size, 0, none⟩ = some (.int .u8 0) := (built_one w5 0 (by omega) (by omega)).cell0
              have g5 := count_any (some ⟨w4.heap.size, 0, none⟩) 8 8 w5.heap.size w5.heap.size 1 (w5.alloc (.cells #[.int .u8 0] 5)) (h1.alloc_ (Nat.le_refl _) _) cz
              refine g5.mono ?_
              clear g5 cz
              rintro e w' ⟨rfl, rfl⟩
              have K6 := K5.below ((Below.refl _ _).alloc K5.hi (.cells #[.int .u8 0] 5))
              have h6 := h2.below ((Below.refl w5.heap.size w5).alloc (Nat.le_refl _) (.cells #[.int .u8 0] 5)) h2.lt
              have ow6 := ow5.alloc (.cells #[.int .u8 0] 5)
              have hb6 : w2.heap.size ≤ (w5.alloc (.cells #[.int .u8 0] 5)).heap.size := by simp; omega
              clear ow5 h1 h2 K5
              go_wp2_with fail
              have g6 := left_at r R 7 v0 _ h6 HV0.out
              refine g6.mono ?_
              clear g6
              rintro e w' ⟨rfl, rfl⟩
              go_wp2_with fail
              have g7 := prefix_any A As n c p cs _ _ l _ K6.a ow6.rd hp hnc
              refine g7.mono ?_
              clear g7
              rintro e w' ⟨rfl, rfl⟩
              go_wp2
              go_roundw
              case rel => exact ⟨k + 1, p, 7, As, cs, by omega, by go_num, hp, rfl, ow6, (by rw [HR.out] at h6; exact h6), K6, hb6⟩
              case measure => simp [intOf]; omega
            · have hkR : 8 ≤ R.length := by rw [HLR.out]; omega
              obtain ⟨X, hX⟩ : ∃ X, X = numL (R.take 8) := ⟨_, rfl⟩
              have hBy : Byt (R.take 8) := hrd.byt.take _
              have hXb := numL_bd hBy
              rw [List.length_take, Nat.min_eq_left hkR, ← hX] at hXb
              have HX := Lib.hid (show low X 8 = R.take 8 by have h9 := low_numL hBy; rw [List.length_take, Nat.min_eq_left hkR, ← hX] at h9; exact h9)
              have E1 := Lib.hid (show numL (seen R 0 8) = X by rw [hX]; simp [seen, hkR])
              have E2 := Lib.hid (show left R 0 8 = R.drop 8 by simp [left, hkR])
              have E3 := Lib.hid (show falt R 0 8 = 0 by simp [falt, hkR])
              clear hX hBy hXb
              obtain ⟨v1, hv1⟩ : ∃ v : Int, v = (n : Int) - (p + 8) := ⟨_, rfl⟩
              have hpk : p + 8 ≤ n := by have := HLR.out; omega
              have hv1a : 0 ≤ v1 := by omega
              have hv1b : v1 ≤ 2000 := by omega
              have hv01 : v1 < v0 := by have := HV.out; omega
              have HV1 := Lib.hid (show (((R.drop 8).length : Nat) : Int) = v1 by rw [List.length_drop, HLR.out]; omega)
              have HS1 : ((p : Int) + 8 + v1 != n) = false := by simp; omega
              clear hv1
              go_wp2_with fail
              have g1 := left_at r R 0 v0 (wr.alloc (.cells #[.bool true, .int .i64 N] 41)) (hrd.below ((Below.refl _ _).alloc (Nat.le_refl _) _) hrd.lt) HV0.out
              refine g1.mono ?_
              clear g1
              rintro e w' ⟨rfl, rfl⟩
              have KA := K.below ((Below.refl _ _).alloc K.hi (.cells #[.bool true, .int .i64 N] 41))
              have hownA := hown.alloc (.cells #[.bool true, .int .i64 N] 41)
              have hrdA := hrd.below ((Below.refl wr.heap.size wr).alloc (Nat.le_refl _) (.cells #[.bool true, .int .i64 N] 41)) hrd.lt
              go_wp2_with fail
              have g2 := u64_at' r R 0 _ hrdA X (R.drop 8) 0 E1.out E2.out E3.out
              refine g2.mono ?_
              clear g2
              rintro e w4 ⟨rfl, h2', h3⟩
              have hsz4 := h3.size
              simp only [World.size_alloc] at hsz4
              have K4 := KA.below (h3.below _ hr1 KA.hi)
              have ow4 := hownA.but h3 hr2
              go_wp2_with fail
              have g3 := put64_any none 0 0 [] X w4 Rd.nil (by omega)
              refine g3.mono ?_
              clear g3
              rintro e w5 ⟨rfl, h1', bp⟩
              rw [List.nil_append] at h1'
              have hsz5 := Nat.le_trans hsz4 bp.size
              have K5 := K4.below (bp.mono K4.hi)
              have ow5 := ow4.below bp
              have h2 := h2'.below bp h2'.lt
              rw [HX.out] at h1'
              have h1 := h1'.rd_w (n := 8) (by rw [List.length_take]; omega)
              clear h1' K4 ow4 h2' bp h3
              have hb5 : w2.heap.size ≤ w5.heap.size := by omega
              go_wp2_with fail
              have g4 := left_at r (R.drop 8) 0 v1 w5 h2 HV1.out
              refine g4.mono ?_
              clear g4
              rintro e w' ⟨rfl, rfl⟩
              have hq6 : p + 8 ≤ 1000000 := by omega
              go_wp2_with (first
                | (at_builtin; refine wpList_append_bytes rfl (.tmp 55) (.tmp 56) rfl w2.heap.size As p cs (l.take p) rfl ow5 w5.heap.size (some ⟨w4.heap.size, 0, none⟩) 8 8 (R.take 8) rfl h1 hq6 hb5 ?_; intro A3 c3 w6 ow6 b6))
              rw [HR.out, seen_more] at ow6
              have K6 := K5.below (b6.mono s2)
              have h6 := h2.below b6 hr2
              have hb6 := Nat.le_trans hb5 b6.size
              clear ow5 h1 h2 K5 b6
              have g6 := left_at r (R.drop 8) 0 v1 _ h6 HV1.out
              refine g6.mono ?_
              clear g6
              rintro e w' ⟨rfl, rfl⟩
              go_wp2_with fail
              have g7 := prefix_any A A3 n c (p + 8) c3 _ _ l _ K6.a ow6.rd hpk hnc
              refine g7.mono ?_
              clear g7
              rintro e w' ⟨rfl, rfl⟩
              go_wp2
              go_roundw
              case rel => exact ⟨k + 1, (p + 8), 0, A3, c3, by omega, by go_num, hpk, rfl, ow6, (by rw [HR.out, List.drop_drop] at h6; exact h6), K6, hb6⟩
              case measure => simp [intOf]; omega
          · have E1 := Lib.hid (show numL (seen R fv 8) = 0 by simp [seen, hf, numL])
            have E2 := Lib.hid (show left R fv 8 = R by simp [left, hf])
            have E3 := Lib.hid (show falt R fv 8 = fv by simp [falt, hf])
            clear hf
            go_wp2_with fail
            have g1 := left_at r R fv v0 (wr.alloc (.cells #[.bool true, .int .i64 N] 41)) (hrd.below ((Below.refl _ _).alloc (Nat.le_refl _) _) hrd.lt) HV0.out
            refine g1.mono ?_
            clear g1
            rintro e w' ⟨rfl, rfl⟩
            have KA := K.below ((Below.refl _ _).alloc K.hi (.cells #[.bool true, .int .i64 N] 41))
            have hownA := hown.alloc (.cells #[.bool true, .int .i64 N] 41)
            have hrdA := hrd.below ((Below.refl wr.heap.size wr).alloc (Nat.le_refl _) (.cells #[.bool true, .int .i64 N] 41)) hrd.lt
            go_wp2_with fail
            have g2 := u64_at' r R fv _ hrdA 0 R fv E1.out E2.out E3.out
            refine g2.mono ?_
            clear g2
            rintro e w4 ⟨rfl, h2', h3⟩
            have hsz4 := h3.size
            simp only [World.size_alloc] at hsz4
            have K4 := KA.below (h3.below _ hr1 KA.hi)
            have ow4 := hownA.but h3 hr2
            go_wp2_with fail
            have g3 := put64_any none 0 0 [] 0 w4 Rd.nil (by omega)
            refine g3.mono ?_
            clear g3
            rintro e w5 ⟨rfl, h1', bp⟩
            rw [List.nil_append] at h1'
            have hsz5 := Nat.le_trans hsz4 bp.size
            have K5 := K4.below (bp.mono K4.hi)
            have ow5 := ow4.below bp
            have h2 := h2'.below bp h2'.lt
            have h0 : low 0 8 = List.replicate 8 0 := by decide
            rw [h0] at h1'
            clear h0
            have h1 := h1'.rd_w (n := 8) (by simp)
            clear h1' K4 ow4 h2' bp h3
            have hb5 : w2.heap.size ≤ w5.heap.size := by omega
            go_wp2_with fail
            have g4 := left_at r R fv v0 w5 h2 HV0.out
            refine g4.mono ?_
            clear g4
            rintro e w' ⟨rfl, rfl⟩
            go_wp2_with fail
            have cz : (w5.alloc (.cells #[.int .u8 0] 5)).cell? ⟨w5.heap.size, 0, none⟩ = some (.int .u8 0) := (built_one w5 0 (by omega) (by omega)).cell0
            have g5 := count_any (some ⟨w4.heap.size, 0, none⟩) 8 8 w5.heap.size w5.heap.size 1 (w5.alloc (.cells #[.int .u8 0] 5)) (h1.alloc_ (Nat.le_refl _) _) cz
            refine g5.mono ?_
            clear g5 cz
            rintro e w' ⟨rfl, rfl⟩
            have K6 := K5.below ((Below.refl _ _).alloc K5.hi (.cells #[.int .u8 0] 5))
            have h6 := h2.below ((Below.refl w5.heap.size w5).alloc (Nat.le_refl _) (.cells #[.int .u8 0] 5)) h2.lt
            have ow6 := ow5.alloc (.cells #[.int .u8 0] 5)
            have hb6 : w2.heap.size ≤ (w5.alloc (.cells #[.int .u8 0] 5)).heap.size := by simp; omega
            clear ow5 h1 h2 K5
            go_wp2_with fail
            have g6 := left_at r R fv v0 _ h6 HV0.out
            refine g6.mono ?_
            clear g6
            rintro e w' ⟨rfl, rfl⟩
            go_wp2_with fail
            have g7 := prefix_any A As n c p cs _ _ l _ K6.a ow6.rd hp hnc
            refine g7.mono ?_
            clear g7
            rintro e w' ⟨rfl, rfl⟩
            go_wp2
            go_roundw
            case rel => exact ⟨k + 1, p, fv, As, cs, by omega, by go_num, hp, rfl, ow6, (by rw [HR.out] at h6; exact h6), K6, hb6⟩
            case measure => simp [intOf]; omega
      -- END OF CASES
    · go_wp2
      go_ret
      exact ⟨rfl, K.old⟩

set_option maxRecDepth 100000 in
set_option maxHeartbeats 1000000 in
theorem moves_big (A A2 : Option Addr) (n c m c2 : Nat) (w : World) (h : 2000 < n ∨ 150 < m) :
    Calls Try.prog 9 #[.slice A n c, .slice A2 m c2] w fun e w' => e = .returned (.bool true) ∧ Below w.heap.size w w' := by
  have hd : (decide ((2000 : Int) < n) || decide ((150 : Int) < m)) = true := by
    rcases h with h | h
    · simp; omega
    · simp; omega
  go_enter Try.func9, Try.ntmps9
  go_wp2_with fail
  refine (wakes_any w).mono ?_
  rintro e w1 ⟨rfl, b1⟩
  go_wp2
  all_goals go_ret
  all_goals exact ⟨rfl, b1⟩

theorem moves_walk (A A2 : Option Addr) (n c m c2 : Nat) (l : List Int) (ls : Nat → Bool × Int) (w : World) (hr : Rd w w.heap.size A n l) (hk : Lk w w.heap.size A2 m ls) (hnc : n ≤ c) :
    Calls Try.prog 9 #[.slice A n c, .slice A2 m c2] w fun e w' => e = .returned (.bool true) ∧ Below w.heap.size w w' := by
  by_cases hb : 2000 < n ∨ 150 < m
  · exact moves_big A A2 n c m c2 w hb
  · exact moves_small A A2 n c m c2 l ls w hr hk hnc (by omega) (by omega)
end Go.Proofs.Ytabccpoolakfiaa
