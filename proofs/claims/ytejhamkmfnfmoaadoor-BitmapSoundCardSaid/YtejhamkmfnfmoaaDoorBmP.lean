/-
  action.said, Split where both variables are laid; a bit of all numbers' bits; what fits, as the program asks it: for BitmapSound.
-/
import Derived.Test.YtejhamkmfnfmoaaDoorHD
import Derived.Test.YtejhamkmfnfmoaaDoorBmY
import Derived.Test.YtejhamkmfnfmoaaDoorBmZ
import Derived.IntWalk
import Derived.Outline
namespace Go.Proofs.YtejhamkmfnfmoaaDoor
open Go.RowKit
set_option linter.unusedVariables false

/-- The action of a half. -/
def act7O (h : Int) : Option Nat := (List.range 8).find? fun i => haAt i == h
/-- A word's action; whether it is known. -/
def act7I (x : Int) : Nat := (act7O (x / 65536)).getD 0
def know7B (x : Int) : Bool := (act7O (x / 65536)).isSome
theorem info_ha : (Tryd.prog.info? 100).map (·.size) = some haC.size := by kernel_rfl
theorem idx_ha (k : Nat) (hk : k < 8) : ∀ w : World, (Instr.index 100 (.agg haC) (.int .i64 k)).run Tryd.prog w = .ok (.int .u16 (haAt k)) w := by
  match k, hk with
  | 0, _ | 1, _ | 2, _ | 3, _ | 4, _ | 5, _ | 6, _ | 7, _ => intro w; kernel_rfl
  | n + 8, h => exact absurd h (by omega)
theorem beq7_sw (a b : Int) : (a == b) = (b == a) := by rw [Bool.eq_iff_iff, beq_iff_eq, beq_iff_eq]; exact eq_comm
theorem wrap16_7 (x : Int) : IntKind.u16.wrap x = x % 65536 := by simp [IntKind.wrap, IntKind.signed, IntKind.bits]
theorem ha_bd (k : Nat) : 0 ≤ haAt k ∧ haAt k < 65536 := by
  match k with
  | 0 | 1 | 2 | 3 | 4 | 5 | 6 | 7 => decide
  | n + 8 => exact (by decide : 0 ≤ (0 : Int) ∧ (0 : Int) < 65536)
theorem ha_mod (k : Nat) : haAt k % 4294967296 = haAt k := by have := ha_bd k; omega

theorem find7_at {p : Nat → Bool} {k : Nat} (hk : k < 8) (h1 : ∀ i, i < k → p i = false) (h2 : p k = true) : (List.range 8).find? p = some k := by
  have h : List.range 8 = List.range k ++ (k :: (List.range (8 - k - 1)).map (k + 1 + ·)) := by
    have : List.range 8 = List.range (k + (1 + (8 - k - 1))) := by congr 1; omega
    rw [this, List.range_add, List.range_add]
    simp [Nat.add_assoc]
  rw [h, List.find?_append, List.find?_eq_none.2 (fun i hi => by rw [h1 i (List.mem_range.1 hi)]; simp)]
  simp [h2]
theorem find7_no {p : Nat → Bool} (h1 : ∀ i, i < 8 → p i = false) : (List.range 8).find? p = none :=
  List.find?_eq_none.2 fun i hi => by rw [h1 i (List.mem_range.1 hi)]; simp

set_option maxHeartbeats 1000000 in
theorem said7_any (x : Int) (h0 : 0 ≤ x) (h1 : x < 4294967296) (w : World) (hK : Halves w) :
    Calls Tryd.prog 38 #[.int .u32 x] w fun e w' => e = .returned (.tuple #[.int .i64 (act7I x), .bool (know7B x)]) ∧ w' = w := by
  obtain ⟨t, fr, hb⟩ := hK.h
  go_enter Tryd.func38, Tryd.ntmps38
  go_wp2_with (refine wpList_load_row rfl 100 (.global 0) rfl 0 rfl t haC fr _ hb Tryd.underlying100 rfl info_ha ?_)
  go_loopw [7] (fun i wr => ∃ k : Nat, k ≤ 8 ∧ i = .int .i64 k ∧ (∀ j, j < k → (haAt j == x / 65536) = false) ∧ wr = w) (fun i _ => 8 - (intOf i).toNat)
  case atStart => exact ⟨0, Nat.zero_le _, rfl, fun j hj => absurd hj (by omega), rfl⟩
  case round =>
    obtain ⟨k, hk, rfl, hj, rfl⟩ := hrel
    have HJ := Lib.hid hj
    clear hj
    by_cases hlt : k < 8
    · have hi := idx_ha k hlt
      have hlt' : (k : Int) < 8 := by omega
      have hm := ha_mod k
      by_cases hq : (haAt k == x / 65536) = true
      · go_wp2
        go_ret2
        have e : act7O (x / 65536) = some k := find7_at hlt HJ.out hq
        simp [act7I, know7B, e]
      · have hq' : (haAt k == x / 65536) = false := by simpa using hq
        clear hq
        go_wp2
        go_roundw
        case rel =>
          refine ⟨k + 1, by omega, by go_num, fun j hj => ?_, trivial⟩
          rcases Nat.lt_or_ge j k with h | h
          · exact HJ.out j h
          · obtain rfl : j = k := by omega
            exact hq'
        case measure => simp [intOf]; omega
    · obtain rfl : k = 8 := by omega
      go_wp2
      go_ret2
      have e : act7O (x / 65536) = none := find7_no HJ.out
      simp [act7I, know7B, e]
set_option maxHeartbeats 1000000 in
theorem split7_any (x : Int) (h0 : 0 ≤ x) (h1 : x < 4294967296) (w : World) (hK : Halves w) :
    Calls Tryd.prog 18 #[.int .u32 x] w fun e w' => e = .returned (.agg #[.int .i64 (act7I x), .int .u16 (x % 65536)]) ∧ Below w.heap.size w w' := by
  go_enter Tryd.func18, Tryd.ntmps18
  go_wp2_with (go_at_call 38; refine (said7_any x h0 h1 _ (hK.alloc _)).mono ?_; rintro e w' ⟨rfl, rfl⟩)
  refine bodyPost_ret (v := .agg #[.int .i64 (act7I x), .int .u16 (x % 65536)]) (by simp [results, Tryd.results18, go_sem, wrap16_7]) rfl ⟨rfl, ?_⟩
  exact (Below.refl _ _).alloc (Nat.le_refl _) _
theorem act7_64 : (act7I 2147418112 : Nat) = 7 ∧ (2147418112 : Int) % 65536 = 0 := by decide
theorem okA_fit {x : Int} {k : Ab} (h : okA x k) : fitA x k = true := by
  unfold fitA
  cases hk : k.k with
  | false => rfl
  | true =>
    obtain ⟨kk, v⟩ := k
    simp only at hk
    subst hk
    have := h rfl
    simp only at this
    subst this
    simp [sureA]
theorem FitV.fit {s : VmS} {t : StS} (h : FitV s t) : fitS s.a s.x s.mem t = true := by
  unfold fitS
  rw [h.r, okA_fit h.a, okA_fit h.x]
  simp only [Bool.true_and, List.all_eq_true]
  exact fun i _ => okA_fit (h.m i)
theorem bit_at (al : Nat → Bool) : ∀ K k, k < K → bitS al K / 2 ^ k % 2 = if al k = true then 1 else 0
  | 0, _, h => absurd h (by omega)
  | K + 1, k, h => by
    have hb := bitS_bd al K
    rcases Nat.lt_or_ge k K with hk | hk
    · have ih := bit_at al K k hk
      unfold bitS
      by_cases ha : al K = true
      · rw [if_pos ha]
        have e : (2 : Int) ^ K = 2 ^ k * (2 * 2 ^ (K - k - 1)) := by
          rw [← Int.mul_assoc, ← Int.pow_succ, ← Int.pow_add, show k + 1 + (K - k - 1) = K by omega]
        have hp : (2 : Int) ^ k ≠ 0 := Int.ne_of_gt (Int.pow_pos (by decide))
        rw [e, Int.add_mul_ediv_left _ _ hp, Int.add_mul_emod_self_left]
        exact ih
      · rw [if_neg ha]
        exact ih
    · obtain rfl : k = K := by omega
      have hp : (0 : Int) < 2 ^ k := Int.pow_pos (by decide)
      unfold bitS
      by_cases ha : al k = true
      · rw [if_pos ha, if_pos ha, show bitS al k + 2 ^ k = bitS al k + 2 ^ k * 1 by omega, Int.add_mul_ediv_left _ _ (Int.ne_of_gt hp), Int.ediv_eq_zero_of_lt hb.1 hb.2]
        rfl
      · rw [if_neg ha, if_neg ha, Int.ediv_eq_zero_of_lt hb.1 hb.2]
        rfl
end Go.Proofs.YtejhamkmfnfmoaaDoor
