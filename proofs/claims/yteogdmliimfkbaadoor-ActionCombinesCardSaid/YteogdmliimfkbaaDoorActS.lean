/-
  What a word says: action.said, Split, Known; the reference's Half, Split, Known.
-/
import Derived.Test.YteogdmliimfkbaaDoorActA
import Derived.IntWalk
import Derived.Outline
namespace Go.Proofs.YteogdmliimfkbaaDoor
open Go.RowKit
set_option linter.unusedVariables false

/-- The action of a half. -/
def actO (h : Int) : Option Nat := (List.range 8).find? fun i => hAt i == h
/-- A word's action; whether it is known. -/
def actI (x : Int) : Nat := (actO (x / 65536)).getD 0
def knowB (x : Int) : Bool := (actO (x / 65536)).isSome
theorem info_h : (Tryd.prog.info? 56).map (·.size) = some hC.size := by kernel_rfl
theorem info_n : (Tryd.prog.info? 58).map (·.size) = some nC.size := by kernel_rfl
theorem idx_h (k : Nat) (hk : k < 8) : ∀ w : World, (Instr.index 56 (.agg hC) (.int .i64 k)).run Tryd.prog w = .ok (.int .u16 (hAt k)) w := by
  match k, hk with
  | 0, _ | 1, _ | 2, _ | 3, _ | 4, _ | 5, _ | 6, _ | 7, _ => intro w; kernel_rfl
  | n + 8, h => exact absurd h (by omega)
theorem beq_sw (a b : Int) : (a == b) = (b == a) := by rw [Bool.eq_iff_iff, beq_iff_eq, beq_iff_eq]; exact eq_comm
theorem wrap16 (x : Int) : IntKind.u16.wrap x = x % 65536 := by simp [IntKind.wrap, IntKind.signed, IntKind.bits]
theorem hAt_bd (k : Nat) : 0 ≤ hAt k ∧ hAt k < 65536 := by
  match k with
  | 0 | 1 | 2 | 3 | 4 | 5 | 6 | 7 => decide
  | n + 8 => exact (by decide : 0 ≤ (0 : Int) ∧ (0 : Int) < 65536)
theorem hAt_mod (k : Nat) : hAt k % 4294967296 = hAt k := by have := hAt_bd k; omega

theorem find_at {p : Nat → Bool} {k : Nat} (hk : k < 8) (h1 : ∀ i, i < k → p i = false) (h2 : p k = true) : (List.range 8).find? p = some k := by
  have h : List.range 8 = List.range k ++ (k :: (List.range (8 - k - 1)).map (k + 1 + ·)) := by
    have : List.range 8 = List.range (k + (1 + (8 - k - 1))) := by congr 1; omega
    rw [this, List.range_add, List.range_add]
    simp [Nat.add_assoc]
  rw [h, List.find?_append, List.find?_eq_none.2 (fun i hi => by rw [h1 i (List.mem_range.1 hi)]; simp)]
  simp [h2]
theorem find_no {p : Nat → Bool} (h1 : ∀ i, i < 8 → p i = false) : (List.range 8).find? p = none :=
  List.find?_eq_none.2 fun i hi => by rw [h1 i (List.mem_range.1 hi)]; simp

set_option maxHeartbeats 1000000 in
theorem said_any (x : Int) (h0 : 0 ≤ x) (h1 : x < 4294967296) (w : World) (hK : Acts w) :
    Calls Tryd.prog 24 #[.int .u32 x] w fun e w' => e = .returned (.tuple #[.int .i64 (actI x), .bool (knowB x)]) ∧ w' = w := by
  obtain ⟨t, fr, hb⟩ := hK.h
  go_enter Tryd.func24, Tryd.ntmps24
  go_wp2_with (refine wpList_load_row rfl 56 (.global 0) rfl 0 rfl t hC fr _ hb Tryd.underlying56 rfl info_h ?_)
  go_loopw [7] (fun i wr => ∃ k : Nat, k ≤ 8 ∧ i = .int .i64 k ∧ (∀ j, j < k → (hAt j == x / 65536) = false) ∧ wr = w) (fun i _ => 8 - (intOf i).toNat)
  case atStart => exact ⟨0, Nat.zero_le _, rfl, fun j hj => absurd hj (by omega), rfl⟩
  case round =>
    obtain ⟨k, hk, rfl, hj, rfl⟩ := hrel
    have HJ := Lib.hid hj
    clear hj
    by_cases hlt : k < 8
    · have hi := idx_h k hlt
      have hlt' : (k : Int) < 8 := by omega
      have hm := hAt_mod k
      by_cases hq : (hAt k == x / 65536) = true
      · go_wp2
        go_ret2
        have e : actO (x / 65536) = some k := find_at hlt HJ.out hq
        simp [actI, knowB, e]
      · have hq' : (hAt k == x / 65536) = false := by simpa using hq
        clear hq
        go_wp2
        go_roundw
        case rel =>
          refine ⟨k + 1, by omega, by go_num, fun j hj => ?_, trivial⟩
          rcases Nat.lt_or_ge j k with h | h
          · exact HJ.out j h
          · obtain rfl : j = k := by omega
            exact hq'
        case measure => simp [intOf]; omega
    · obtain rfl : k = 8 := by omega
      go_wp2
      go_ret2
      have e : actO (x / 65536) = none := find_no HJ.out
      simp [actI, knowB, e]
set_option maxHeartbeats 1000000 in
theorem split_any (x : Int) (h0 : 0 ≤ x) (h1 : x < 4294967296) (w : World) (hK : Acts w) :
    Calls Tryd.prog 10 #[.int .u32 x] w fun e w' => e = .returned (.agg #[.int .i64 (actI x), .int .u16 (x % 65536)]) ∧ Below w.heap.size w w' := by
  go_enter Tryd.func10, Tryd.ntmps10
  go_wp2_with (go_at_call 24; refine (said_any x h0 h1 _ (hK.alloc _)).mono ?_; rintro e w' ⟨rfl, rfl⟩)
  refine bodyPost_ret (v := .agg #[.int .i64 (actI x), .int .u16 (x % 65536)]) (by simp [results, Tryd.results10, go_sem, wrap16]) rfl ⟨rfl, ?_⟩
  exact (Below.refl _ _).alloc (Nat.le_refl _) _
set_option maxHeartbeats 1000000 in
theorem known_any (x : Int) (h0 : 0 ≤ x) (h1 : x < 4294967296) (w : World) (hK : Acts w) :
    Calls Tryd.prog 12 #[.int .u32 x] w fun e w' => e = .returned (.bool (knowB x)) ∧ w' = w := by
  go_enter Tryd.func12, Tryd.ntmps12
  go_wp2_with (go_at_call 24; refine (said_any x h0 h1 _ hK).mono ?_; rintro e w' ⟨rfl, rfl⟩)
  go_ret
  exact ⟨rfl, rfl⟩
theorem idx_r (k : Nat) (hk : k < 8) : ∀ w : World, (Instr.index 57 (.agg #[.int .u32 32768, .int .u32 0, .int .u32 3, .int .u32 5, .int .u32 32704, .int .u32 32752, .int .u32 32764, .int .u32 32767]) (.int .i64 k)).run Tryd.prog w = .ok (.int .u32 (hAt k)) w := by
  match k, hk with
  | 0, _ | 1, _ | 2, _ | 3, _ | 4, _ | 5, _ | 6, _ | 7, _ => intro w; kernel_rfl
  | n + 8, h => exact absurd h (by omega)
set_option maxHeartbeats 1000000 in
theorem half_any (k : Nat) (hk : k < 8) (w : World) :
    Calls Tryd.prog 15 #[.int .i64 k] w fun e w' => e = .returned (.int .u32 (hAt k)) ∧ w' = w := by
  have hi := idx_r k hk
  go_enter Tryd.func15, Tryd.ntmps15
  go_wp2
  go_ret
  exact ⟨rfl, rfl⟩
set_option maxHeartbeats 1000000 in
theorem knownR_any (x : Int) (h0 : 0 ≤ x) (h1 : x < 4294967296) (w : World) :
    Calls Tryd.prog 13 #[.int .u32 x] w fun e w' => e = .returned (.bool (knowB x)) ∧ w' = w := by
  go_enter Tryd.func13, Tryd.ntmps13
  go_wp2
  go_loopw [4] (fun i wr => ∃ k : Nat, k ≤ 8 ∧ i = .int .i64 k ∧ (∀ j, j < k → (hAt j == x / 65536) = false) ∧ wr = w) (fun i _ => 8 - (intOf i).toNat)
  case atStart => exact ⟨0, Nat.zero_le _, rfl, fun j hj => absurd hj (by omega), rfl⟩
  case round =>
    obtain ⟨k, hk, rfl, hj, rfl⟩ := hrel
    have HJ := Lib.hid hj
    clear hj
    by_cases hlt : k < 8
    · have hlt' : (k : Int) < 8 := by omega
      by_cases hq : (hAt k == x / 65536) = true
      · have hq2 : (x / 65536 == hAt k) = true := (beq_sw _ _).trans hq
        go_wp2_with (go_at_call 15; refine (half_any k hlt _).mono ?_; rintro e w' ⟨rfl, rfl⟩)
        go_ret
        have e : actO (x / 65536) = some k := find_at hlt HJ.out hq
        simp [knowB, e]
      · have hq' : (hAt k == x / 65536) = false := by simpa using hq
        have hq2 : (x / 65536 == hAt k) = false := (beq_sw _ _).trans hq'
        clear hq
        go_wp2_with (go_at_call 15; refine (half_any k hlt _).mono ?_; rintro e w' ⟨rfl, rfl⟩)
        go_roundw
        case rel =>
          refine ⟨k + 1, by omega, by go_num, fun j hj => ?_, trivial⟩
          rcases Nat.lt_or_ge j k with h | h
          · exact HJ.out j h
          · obtain rfl : j = k := by omega
            exact hq'
        case measure => simp [intOf]; omega
    · obtain rfl : k = 8 := by omega
      go_wp2
      go_ret
      have e : actO (x / 65536) = none := find_no HJ.out
      simp [knowB, e]
end Go.Proofs.YteogdmliimfkbaaDoor
