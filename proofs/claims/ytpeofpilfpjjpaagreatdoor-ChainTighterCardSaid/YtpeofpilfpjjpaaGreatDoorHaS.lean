/-
  What a word says, where only the halves are laid: action.said, Split, Under.
-/
import Derived.Test.YtpeofpilfpjjpaaGreatDoorHD
import Derived.IntWalk
import Derived.Outline
import Derived.Test.YtpeofpilfpjjpaaGreatDoorHI
import Derived.BigQuiet
namespace Go.Proofs.YtpeofpilfpjjpaaGreatDoor
open Go.RowKit
set_option linter.unusedVariables false

/-- The action of a half. -/
def actO (h : Int) : Option Nat := (List.range 8).find? fun i => haAt i == h
/-- A word's action; whether it is known. -/
def actI (x : Int) : Nat := (actO (x / 65536)).getD 0
def knowB (x : Int) : Bool := (actO (x / 65536)).isSome
theorem info_h : (Tryz.prog.info? 168).map (·.size) = some haC.size := by kernel_rfl
theorem idx_h (k : Nat) (hk : k < 8) : ∀ w : World, (Instr.index 168 (.agg haC) (.int .i64 k)).run Tryz.prog w = .ok (.int .u16 (haAt k)) w := by
  match k, hk with
  | 0, _ | 1, _ | 2, _ | 3, _ | 4, _ | 5, _ | 6, _ | 7, _ => intro w; kernel_rfl
  | n + 8, h => exact absurd h (by omega)
theorem wrap16 (x : Int) : IntKind.u16.wrap x = x % 65536 := by simp [IntKind.wrap, IntKind.signed, IntKind.bits]
theorem haAt_bd (k : Nat) : 0 ≤ haAt k ∧ haAt k < 65536 := by
  match k with
  | 0 | 1 | 2 | 3 | 4 | 5 | 6 | 7 => decide
  | n + 8 => exact (by decide : 0 ≤ (0 : Int) ∧ (0 : Int) < 65536)
theorem haAt_mod (k : Nat) : haAt k % 4294967296 = haAt k := by have := haAt_bd k; omega

theorem find_at {p : Nat → Bool} {k : Nat} (hk : k < 8) (h1 : ∀ i, i < k → p i = false) (h2 : p k = true) : (List.range 8).find? p = some k := by
  have h : List.range 8 = List.range k ++ (k :: (List.range (8 - k - 1)).map (k + 1 + ·)) := by
    have : List.range 8 = List.range (k + (1 + (8 - k - 1))) := by congr 1; omega
    rw [this, List.range_add, List.range_add]
    simp [Nat.add_assoc]
  rw [h, List.find?_append, List.find?_eq_none.2 (fun i hi => by rw [h1 i (List.mem_range.1 hi)]; simp)]
  simp [h2]
theorem find_no {p : Nat → Bool} (h1 : ∀ i, i < 8 → p i = false) : (List.range 8).find? p = none :=
  List.find?_eq_none.2 fun i hi => by rw [h1 i (List.mem_range.1 hi)]; simp

set_option maxHeartbeats 1000000 in
theorem said_any (x : Int) (h0 : 0 ≤ x) (h1 : x < 4294967296) (w : World) (hK : Halves w) :
    Calls Tryz.prog 100 #[.int .u32 x] w fun e w' => e = .returned (.tuple #[.int .i64 (actI x), .bool (knowB x)]) ∧ w' = w := by
  obtain ⟨t, fr, hb⟩ := hK.h
  go_enter Tryz.func100, Tryz.ntmps100
  go_wp2_with (refine wpList_load_row rfl 168 (.global 0) rfl 0 rfl t haC fr _ hb Tryz.underlying168 rfl info_h ?_)
  go_loopw [7] (fun i wr => ∃ k : Nat, k ≤ 8 ∧ i = .int .i64 k ∧ (∀ j, j < k → (haAt j == x / 65536) = false) ∧ wr = w) (fun i _ => 8 - (intOf i).toNat)
  case atStart => exact ⟨0, Nat.zero_le _, rfl, fun j hj => absurd hj (by omega), rfl⟩
  case round =>
    obtain ⟨k, hk, rfl, hj, rfl⟩ := hrel
    have HJ := Lib.hid hj
    clear hj
    by_cases hlt : k < 8
    · have hi := idx_h k hlt
      have hlt' : (k : Int) < 8 := by omega
      have hm := haAt_mod k
      by_cases hq : (haAt k == x / 65536) = true
      · go_wp2
        go_ret2
        have e : actO (x / 65536) = some k := find_at hlt HJ.out hq
        simp [actI, knowB, e]
      · have hq' : (haAt k == x / 65536) = false := by simpa using hq
        clear hq
        go_wp2
        go_roundw
        case rel =>
          refine ⟨k + 1, by omega, by go_num, fun j hj => ?_, trivial⟩
          rcases Nat.lt_or_ge j k with h | h
          · exact HJ.out j h
          · obtain rfl : j = k := by omega
            exact hq'
        case measure => simp [intOf]; omega
    · obtain rfl : k = 8 := by omega
      go_wp2
      go_ret2
      have e : actO (x / 65536) = none := find_no HJ.out
      simp [actI, knowB, e]
set_option maxHeartbeats 1000000 in
theorem actsplit_any (x : Int) (h0 : 0 ≤ x) (h1 : x < 4294967296) (w : World) (hK : Halves w) :
    Calls Tryz.prog 85 #[.int .u32 x] w fun e w' => e = .returned (.agg #[.int .i64 (actI x), .int .u16 (x % 65536)]) ∧ Below w.heap.size w w' := by
  go_enter Tryz.func85, Tryz.ntmps85
  go_wp2_with (go_at_call 100; refine (said_any x h0 h1 _ (hK.alloc _)).mono ?_; rintro e w' ⟨rfl, rfl⟩)
  refine bodyPost_ret (v := .agg #[.int .i64 (actI x), .int .u16 (x % 65536)]) (by simp [results, Tryz.results85, go_sem, wrap16]) rfl ⟨rfl, ?_⟩
  exact (Below.refl _ _).alloc (Nat.le_refl _) _
theorem haAt_inj (i j : Nat) (hi : i < 8) (hj : j < 8) (h : haAt i = haAt j) : i = j := by
  have : ∀ i, i < 8 → ∀ j, j < 8 → haAt i = haAt j → i = j := by decide
  exact this i hi j hj h
theorem actO_lt {h : Int} {k : Nat} (e : actO h = some k) : k < 8 := by
  have := List.mem_of_find?_eq_some e
  simpa using this
theorem actI_lt (x : Int) : actI x < 8 := by
  unfold actI
  cases h : actO (x / 65536) with
  | none => simp
  | some k => exact actO_lt h
theorem actO_iff (h : Int) (k : Nat) (hk : k < 8) : actO h = some k ↔ haAt k = h := by
  constructor
  · intro e
    have := List.find?_some e
    simpa using this
  · intro e
    refine find_at hk (fun i hi => ?_) (by simpa using e)
    have : haAt i ≠ h := fun e' => by have := haAt_inj i k (by omega) hk (e'.trans e.symm); omega
    simpa using this
theorem ver_info : (Tryz.prog.info? 67).map (·.size) = some 2 := by kernel_rfl
theorem field_0 (a b : Value) : ∀ w : World, (Instr.field 67 (.agg #[a, b]) 0).run Tryz.prog w = .ok a w := by intro w; kernel_rfl
set_option maxHeartbeats 1000000 in
theorem under_any (x y : Int) (h0 : 0 ≤ x) (h1 : x < 4294967296) (k0 : 0 ≤ y) (k1 : y < 4294967296) (w : World) (hK : Halves w) :
    Calls Tryz.prog 84 #[.int .u32 x, .int .u32 y] w fun e w' => e = .returned (.bool (decide (actI x < actI y))) ∧ Below w.heap.size w w' := by
  have hf := field_0
  go_enter Tryz.func84, Tryz.ntmps84
  go_wp2_with fail
  refine (actsplit_any x h0 h1 _ hK).mono ?_
  rintro e w1 ⟨rfl, b1⟩
  go_wp2_with fail
  refine (actsplit_any y k0 k1 _ (hK.below b1 hK.pos)).mono ?_
  rintro e w2 ⟨rfl, b2⟩
  go_wp2_with fail
  go_ret
  refine ⟨?_, b1.trans (b2.mono b1.size)⟩
  rfl
end Go.Proofs.YtpeofpilfpjjpaaGreatDoor
