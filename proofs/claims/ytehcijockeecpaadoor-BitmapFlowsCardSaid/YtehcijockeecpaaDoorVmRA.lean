/-
  The reference's power, Alu, Holds.
-/
import Derived.Test.YtehcijockeecpaaDoorVmH
namespace Go.Proofs.YtehcijockeecpaaDoor
open Go.RowKit
set_option linter.unusedVariables false

/-- So many times two, going round. -/
def pw (k : Nat) : Int := (2 : Int) ^ k % 4294967296
theorem pw_succ (k : Nat) : IntKind.u32.wrap (2 * pw k) = pw (k + 1) := by
  rw [IntKind.wrap_u32]
  unfold pw
  rw [Int.pow_succ, Int.mul_comm (2 ^ k) 2, Int.mul_emod 2 (2 ^ k % 4294967296), Int.emod_emod_of_dvd _ (Int.dvd_refl _), ← Int.mul_emod]
theorem pw_bd (k : Nat) : 0 ≤ pw k ∧ pw k ≤ 4294967295 := by unfold pw; omega
set_option maxHeartbeats 1000000 in
theorem power_any (b : Int) (b0 : 0 ≤ b) (b1 : b ≤ 4294967295) (w : World) : Calls Tryd.prog 56 #[.int .u32 b] w fun e w' => e = .returned (.int .u32 (pw (min b.toNat 32))) ∧ w' = w := by
  obtain ⟨m, hm⟩ : ∃ m, min b.toNat 32 = m := ⟨_, rfl⟩
  rw [hm]
  have HM := Lib.hid hm
  have hm32 : m ≤ 32 := by omega
  clear hm
  go_enter Tryd.func56, Tryd.ntmps56
  go_wp2
  go_loopw [3, 4] (fun n i wr => ∃ k : Nat, k ≤ m ∧ i = .int .u32 k ∧ n = .int .u32 (pw k) ∧ wr = w) (fun _ i _ => m - (intOf i).toNat)
  case atStart => exact ⟨0, Nat.zero_le _, rfl, rfl, rfl⟩
  case round =>
    obtain ⟨k, hk, rfl, rfl, rfl⟩ := hrel
    have hM := HM.out
    by_cases hlt : k < m
    · have h1 : (k : Int) < b := by omega
      have h2 : (k : Int) < 32 := by omega
      have hp := pw_succ k
      clear hM
      go_wp2
      go_roundw
      case rel => exact ⟨k + 1, by omega, by go_num, rfl, trivial⟩
      case measure => simp [intOf]; omega
    · obtain rfl : k = m := by omega
      by_cases h1 : (k : Int) < b
      · have h2 : ¬ (k : Int) < 32 := by omega
        clear hM
        go_wp2
        go_ret
        exact ⟨rfl, rfl⟩
      · clear hM
        go_wp2
        go_ret
        exact ⟨rfl, rfl⟩
theorem lsh_eq (a : Int) (k : Nat) : IntKind.u32.wrap (a * pw k) = IntKind.u32.wrap (a * 2 ^ k) := by
  rw [IntKind.wrap_u32, IntKind.wrap_u32]
  unfold pw
  rw [Int.mul_emod a (2 ^ k % 4294967296), Int.emod_emod_of_dvd _ (Int.dvd_refl _), ← Int.mul_emod]
theorem pw_small {k : Nat} (h : k < 32) : pw k = 2 ^ k := by
  unfold pw
  have h1 : (2 : Int) ^ k ≤ 2 ^ 31 := by
    have := Nat.pow_le_pow_right (show 0 < 2 by omega) (show k ≤ 31 by omega)
    exact_mod_cast this
  have h2 : (0 : Int) < 2 ^ k := Int.pow_pos (by omega)
  have h3 : (2 : Int) ^ 31 = 2147483648 := by decide
  rw [Int.emod_eq_of_lt (by omega) (by omega)]

set_option maxRecDepth 100000 in
set_option maxHeartbeats 1000000 in
theorem ralu_0 (op a b : Int) (h0 : 0 ≤ op) (h1 : op ≤ 65535) (ha : U32 a) (hb : U32 b) (hk : opK op = 0) (w : World) :
    Calls Tryd.prog 43 #[.int .u16 op, .int .u32 a, .int .u32 b] w fun e w' => e = .returned (.tuple #[.int .u32 (IntKind.u32.wrap (a + b)), .bool true]) ∧ w' = w := by
  obtain ⟨a0, a1⟩ := ha
  obtain ⟨b0, b1⟩ := hb
  unfold opK at hk
  go_enter Tryd.func43, Tryd.ntmps43
  go_wp2_with fail
  go_ret2
  exact ⟨rfl, rfl⟩

set_option maxRecDepth 100000 in
set_option maxHeartbeats 1000000 in
theorem ralu_1 (op a b : Int) (h0 : 0 ≤ op) (h1 : op ≤ 65535) (ha : U32 a) (hb : U32 b) (hk : opK op = 1) (w : World) :
    Calls Tryd.prog 43 #[.int .u16 op, .int .u32 a, .int .u32 b] w fun e w' => e = .returned (.tuple #[.int .u32 (IntKind.u32.wrap (a - b)), .bool true]) ∧ w' = w := by
  obtain ⟨a0, a1⟩ := ha
  obtain ⟨b0, b1⟩ := hb
  unfold opK at hk
  go_enter Tryd.func43, Tryd.ntmps43
  go_wp2_with fail
  go_ret2
  exact ⟨rfl, rfl⟩

set_option maxRecDepth 100000 in
set_option maxHeartbeats 1000000 in
theorem ralu_2 (op a b : Int) (h0 : 0 ≤ op) (h1 : op ≤ 65535) (ha : U32 a) (hb : U32 b) (hk : opK op = 2) (w : World) :
    Calls Tryd.prog 43 #[.int .u16 op, .int .u32 a, .int .u32 b] w fun e w' => e = .returned (.tuple #[.int .u32 (IntKind.u32.wrap (a * b)), .bool true]) ∧ w' = w := by
  obtain ⟨a0, a1⟩ := ha
  obtain ⟨b0, b1⟩ := hb
  unfold opK at hk
  go_enter Tryd.func43, Tryd.ntmps43
  go_wp2_with fail
  go_ret2
  exact ⟨rfl, rfl⟩

set_option maxRecDepth 100000 in
set_option maxHeartbeats 1000000 in
theorem ralu_3 (op a b : Int) (h0 : 0 ≤ op) (h1 : op ≤ 65535) (ha : U32 a) (hb : U32 b) (hk : opK op = 3) (hb0 : ¬ b = 0) (w : World) :
    Calls Tryd.prog 43 #[.int .u16 op, .int .u32 a, .int .u32 b] w fun e w' => e = .returned (.tuple #[.int .u32 (a / b), .bool true]) ∧ w' = w := by
  obtain ⟨a0, a1⟩ := ha
  obtain ⟨b0, b1⟩ := hb
  unfold opK at hk
  go_enter Tryd.func43, Tryd.ntmps43
  go_wp2_with fail
  go_ret2
  exact ⟨rfl, rfl⟩

set_option maxRecDepth 100000 in
set_option maxHeartbeats 1000000 in
theorem ralu_3z (op a b : Int) (h0 : 0 ≤ op) (h1 : op ≤ 65535) (ha : U32 a) (hb : U32 b) (hk : opK op = 3) (hb0 : b = 0) (w : World) :
    Calls Tryd.prog 43 #[.int .u16 op, .int .u32 a, .int .u32 b] w fun e w' => e = .returned (.tuple #[.int .u32 (0), .bool false]) ∧ w' = w := by
  obtain ⟨a0, a1⟩ := ha
  obtain ⟨b0, b1⟩ := hb
  unfold opK at hk
  subst hb0
  go_enter Tryd.func43, Tryd.ntmps43
  go_wp2_with fail
  go_ret2
  exact ⟨rfl, rfl⟩

set_option maxRecDepth 100000 in
set_option maxHeartbeats 1000000 in
theorem ralu_4 (op a b : Int) (h0 : 0 ≤ op) (h1 : op ≤ 65535) (ha : U32 a) (hb : U32 b) (hk : opK op = 4) (w : World) :
    Calls Tryd.prog 43 #[.int .u16 op, .int .u32 a, .int .u32 b] w fun e w' => e = .returned (.tuple #[.int .u32 (bits .or .u32 a b), .bool true]) ∧ w' = w := by
  obtain ⟨a0, a1⟩ := ha
  obtain ⟨b0, b1⟩ := hb
  unfold opK at hk
  go_enter Tryd.func43, Tryd.ntmps43
  go_wp2_with fail
  go_ret2
  exact ⟨rfl, rfl⟩

set_option maxRecDepth 100000 in
set_option maxHeartbeats 1000000 in
theorem ralu_5 (op a b : Int) (h0 : 0 ≤ op) (h1 : op ≤ 65535) (ha : U32 a) (hb : U32 b) (hk : opK op = 5) (w : World) :
    Calls Tryd.prog 43 #[.int .u16 op, .int .u32 a, .int .u32 b] w fun e w' => e = .returned (.tuple #[.int .u32 (bits .and .u32 a b), .bool true]) ∧ w' = w := by
  obtain ⟨a0, a1⟩ := ha
  obtain ⟨b0, b1⟩ := hb
  unfold opK at hk
  go_enter Tryd.func43, Tryd.ntmps43
  go_wp2_with fail
  go_ret2
  exact ⟨rfl, rfl⟩

set_option maxRecDepth 100000 in
set_option maxHeartbeats 1000000 in
theorem ralu_6 (op a b : Int) (h0 : 0 ≤ op) (h1 : op ≤ 65535) (ha : U32 a) (hb : U32 b) (hk : opK op = 6) (w : World) :
    Calls Tryd.prog 43 #[.int .u16 op, .int .u32 a, .int .u32 b] w fun e w' => e = .returned (.tuple #[.int .u32 (IntKind.u32.wrap (a * pw (min b.toNat 32))), .bool true]) ∧ w' = w := by
  obtain ⟨a0, a1⟩ := ha
  obtain ⟨b0, b1⟩ := hb
  unfold opK at hk
  have P := power_any b b0 b1 w
  go_enter Tryd.func43, Tryd.ntmps43
  go_wp2_with fail
  refine P.mono ?_
  rintro e w' ⟨rfl, hw⟩
  subst w'
  go_wp2_with fail
  go_ret2
  exact ⟨rfl, rfl⟩

set_option maxRecDepth 100000 in
set_option maxHeartbeats 1000000 in
theorem ralu_7 (op a b : Int) (h0 : 0 ≤ op) (h1 : op ≤ 65535) (ha : U32 a) (hb : U32 b) (hk : opK op = 7) (h32 : b < 32) (w : World) :
    Calls Tryd.prog 43 #[.int .u16 op, .int .u32 a, .int .u32 b] w fun e w' => e = .returned (.tuple #[.int .u32 (a / pw (min b.toNat 32)), .bool true]) ∧ w' = w := by
  obtain ⟨a0, a1⟩ := ha
  obtain ⟨b0, b1⟩ := hb
  unfold opK at hk
  have P := power_any b b0 b1 w
  have hp := pw_bd (min b.toNat 32)
  have hp0 : ¬ pw (min b.toNat 32) = 0 := by
    rw [pw_small (by omega)]
    exact Int.ne_of_gt (Int.pow_pos (by omega))
  obtain ⟨q, hq⟩ : ∃ q, pw (min b.toNat 32) = q := ⟨_, rfl⟩
  rw [hq] at P hp hp0 ⊢
  obtain ⟨q0, q1⟩ := hp
  clear hq
  go_enter Tryd.func43, Tryd.ntmps43
  go_wp2_with fail
  refine P.mono ?_
  rintro e w' ⟨rfl, hw⟩
  subst w'
  go_wp2_with fail
  go_ret2
  exact ⟨rfl, rfl⟩

set_option maxRecDepth 100000 in
set_option maxHeartbeats 1000000 in
theorem ralu_7z (op a b : Int) (h0 : 0 ≤ op) (h1 : op ≤ 65535) (ha : U32 a) (hb : U32 b) (hk : opK op = 7) (h32 : ¬ b < 32) (w : World) :
    Calls Tryd.prog 43 #[.int .u16 op, .int .u32 a, .int .u32 b] w fun e w' => e = .returned (.tuple #[.int .u32 (0), .bool true]) ∧ w' = w := by
  obtain ⟨a0, a1⟩ := ha
  obtain ⟨b0, b1⟩ := hb
  unfold opK at hk
  have h32 : 32 ≤ b := by omega
  go_enter Tryd.func43, Tryd.ntmps43
  go_wp2_with fail
  go_ret2
  exact ⟨rfl, rfl⟩

set_option maxRecDepth 100000 in
set_option maxHeartbeats 1000000 in
theorem ralu_8 (op a b : Int) (h0 : 0 ≤ op) (h1 : op ≤ 65535) (ha : U32 a) (hb : U32 b) (hk : opK op = 8) (w : World) :
    Calls Tryd.prog 43 #[.int .u16 op, .int .u32 a, .int .u32 b] w fun e w' => e = .returned (.tuple #[.int .u32 (IntKind.u32.wrap (-a)), .bool true]) ∧ w' = w := by
  obtain ⟨a0, a1⟩ := ha
  obtain ⟨b0, b1⟩ := hb
  unfold opK at hk
  go_enter Tryd.func43, Tryd.ntmps43
  go_wp2_with fail
  go_ret2
  exact ⟨rfl, rfl⟩

set_option maxRecDepth 100000 in
set_option maxHeartbeats 1000000 in
theorem ralu_9 (op a b : Int) (h0 : 0 ≤ op) (h1 : op ≤ 65535) (ha : U32 a) (hb : U32 b) (hk : opK op = 9) (w : World) :
    Calls Tryd.prog 43 #[.int .u16 op, .int .u32 a, .int .u32 b] w fun e w' => e = .returned (.tuple #[.int .u32 (0), .bool false]) ∧ w' = w := by
  obtain ⟨a0, a1⟩ := ha
  obtain ⟨b0, b1⟩ := hb
  unfold opK at hk
  go_enter Tryd.func43, Tryd.ntmps43
  go_wp2_with fail
  go_ret2
  exact ⟨rfl, rfl⟩

set_option maxRecDepth 100000 in
set_option maxHeartbeats 1000000 in
theorem ralu_10 (op a b : Int) (h0 : 0 ≤ op) (h1 : op ≤ 65535) (ha : U32 a) (hb : U32 b) (hk : opK op = 10) (w : World) :
    Calls Tryd.prog 43 #[.int .u16 op, .int .u32 a, .int .u32 b] w fun e w' => e = .returned (.tuple #[.int .u32 (bits .xor .u32 a b), .bool true]) ∧ w' = w := by
  obtain ⟨a0, a1⟩ := ha
  obtain ⟨b0, b1⟩ := hb
  unfold opK at hk
  go_enter Tryd.func43, Tryd.ntmps43
  go_wp2_with fail
  go_ret2
  exact ⟨rfl, rfl⟩

set_option maxRecDepth 100000 in
set_option maxHeartbeats 1000000 in
theorem ralu_11 (op a b : Int) (h0 : 0 ≤ op) (h1 : op ≤ 65535) (ha : U32 a) (hb : U32 b) (hk : opK op = 11) (w : World) :
    Calls Tryd.prog 43 #[.int .u16 op, .int .u32 a, .int .u32 b] w fun e w' => e = .returned (.tuple #[.int .u32 (0), .bool false]) ∧ w' = w := by
  obtain ⟨a0, a1⟩ := ha
  obtain ⟨b0, b1⟩ := hb
  unfold opK at hk
  go_enter Tryd.func43, Tryd.ntmps43
  go_wp2_with fail
  go_ret2
  exact ⟨rfl, rfl⟩

set_option maxRecDepth 100000 in
set_option maxHeartbeats 1000000 in
theorem ralu_12 (op a b : Int) (h0 : 0 ≤ op) (h1 : op ≤ 65535) (ha : U32 a) (hb : U32 b) (hk : opK op = 12) (w : World) :
    Calls Tryd.prog 43 #[.int .u16 op, .int .u32 a, .int .u32 b] w fun e w' => e = .returned (.tuple #[.int .u32 (0), .bool false]) ∧ w' = w := by
  obtain ⟨a0, a1⟩ := ha
  obtain ⟨b0, b1⟩ := hb
  unfold opK at hk
  go_enter Tryd.func43, Tryd.ntmps43
  go_wp2_with fail
  go_ret2
  exact ⟨rfl, rfl⟩

set_option maxRecDepth 100000 in
set_option maxHeartbeats 1000000 in
theorem ralu_13 (op a b : Int) (h0 : 0 ≤ op) (h1 : op ≤ 65535) (ha : U32 a) (hb : U32 b) (hk : opK op = 13) (w : World) :
    Calls Tryd.prog 43 #[.int .u16 op, .int .u32 a, .int .u32 b] w fun e w' => e = .returned (.tuple #[.int .u32 (0), .bool false]) ∧ w' = w := by
  obtain ⟨a0, a1⟩ := ha
  obtain ⟨b0, b1⟩ := hb
  unfold opK at hk
  go_enter Tryd.func43, Tryd.ntmps43
  go_wp2_with fail
  go_ret2
  exact ⟨rfl, rfl⟩

set_option maxRecDepth 100000 in
set_option maxHeartbeats 1000000 in
theorem ralu_14 (op a b : Int) (h0 : 0 ≤ op) (h1 : op ≤ 65535) (ha : U32 a) (hb : U32 b) (hk : opK op = 14) (w : World) :
    Calls Tryd.prog 43 #[.int .u16 op, .int .u32 a, .int .u32 b] w fun e w' => e = .returned (.tuple #[.int .u32 (0), .bool false]) ∧ w' = w := by
  obtain ⟨a0, a1⟩ := ha
  obtain ⟨b0, b1⟩ := hb
  unfold opK at hk
  go_enter Tryd.func43, Tryd.ntmps43
  go_wp2_with fail
  go_ret2
  exact ⟨rfl, rfl⟩

set_option maxRecDepth 100000 in
set_option maxHeartbeats 1000000 in
theorem ralu_15 (op a b : Int) (h0 : 0 ≤ op) (h1 : op ≤ 65535) (ha : U32 a) (hb : U32 b) (hk : opK op = 15) (w : World) :
    Calls Tryd.prog 43 #[.int .u16 op, .int .u32 a, .int .u32 b] w fun e w' => e = .returned (.tuple #[.int .u32 (0), .bool false]) ∧ w' = w := by
  obtain ⟨a0, a1⟩ := ha
  obtain ⟨b0, b1⟩ := hb
  unfold opK at hk
  go_enter Tryd.func43, Tryd.ntmps43
  go_wp2_with fail
  go_ret2
  exact ⟨rfl, rfl⟩

theorem refalu_any (op a b : Int) (h0 : 0 ≤ op) (h1 : op ≤ 65535) (ha : U32 a) (hb : U32 b) (w : World) :
    Calls Tryd.prog 43 #[.int .u16 op, .int .u32 a, .int .u32 b] w fun e w' => e = .returned (.tuple #[.int .u32 (aluV op a b), .bool (aluB op a b)]) ∧ w' = w := by
  have hr : 0 ≤ opK op ∧ opK op < 16 := by unfold opK; omega
  obtain ⟨k, hk⟩ : ∃ k, opK op = k := ⟨_, rfl⟩
  rw [hk] at hr
  have hc : k = 0 ∨ k = 1 ∨ k = 2 ∨ k = 3 ∨ k = 4 ∨ k = 5 ∨ k = 6 ∨ k = 7 ∨ k = 8 ∨ k = 9 ∨ k = 10 ∨ k = 11 ∨ k = 12 ∨ k = 13 ∨ k = 14 ∨ k = 15 := by omega
  have key : ∀ (v : Int) (o : Bool), aluV op a b = v → aluB op a b = o → (Calls Tryd.prog 43 #[.int .u16 op, .int .u32 a, .int .u32 b] w fun e w' => e = .returned (.tuple #[.int .u32 v, .bool o]) ∧ w' = w) →
      Calls Tryd.prog 43 #[.int .u16 op, .int .u32 a, .int .u32 b] w fun e w' => e = .returned (.tuple #[.int .u32 (aluV op a b), .bool (aluB op a b)]) ∧ w' = w := fun v o hv ho h => by rw [hv, ho]; exact h
  rcases hc with rfl | rfl | rfl | rfl | rfl | rfl | rfl | rfl | rfl | rfl | rfl | rfl | rfl | rfl | rfl | rfl
  · exact key _ _ (by simp [aluV, alI, hk]) (by simp [aluB, alI, hk]) (ralu_0 op a b h0 h1 ha hb hk w)
  · exact key _ _ (by simp [aluV, alI, hk]) (by simp [aluB, alI, hk]) (ralu_1 op a b h0 h1 ha hb hk w)
  · exact key _ _ (by simp [aluV, alI, hk]) (by simp [aluB, alI, hk]) (ralu_2 op a b h0 h1 ha hb hk w)
  · by_cases hb0 : b = 0
    · exact key _ _ (by simp [aluV, alI, hk, hb0]) (by simp [aluB, alI, hk, hb0]) (ralu_3z op a b h0 h1 ha hb hk hb0 w)
    · exact key _ _ (by simp [aluV, alI, hk, hb0]) (by simp [aluB, alI, hk, hb0]) (ralu_3 op a b h0 h1 ha hb hk hb0 w)
  · exact key _ _ (by simp [aluV, alI, hk]) (by simp [aluB, alI, hk]) (ralu_4 op a b h0 h1 ha hb hk w)
  · exact key _ _ (by simp [aluV, alI, hk]) (by simp [aluB, alI, hk]) (ralu_5 op a b h0 h1 ha hb hk w)
  · exact key _ _ (by simp [aluV, alI, hk, lsh_eq]) (by simp [aluB, alI, hk]) (ralu_6 op a b h0 h1 ha hb hk w)
  · by_cases h32 : b < 32
    · exact key _ _ (by
        have : min b.toNat 32 < 32 := by omega
        simp [aluV, alI, hk, pw_small this]) (by simp [aluB, alI, hk]) (ralu_7 op a b h0 h1 ha hb hk h32 w)
    · exact key _ _ (by
        have e : min b.toNat 32 = 32 := by omega
        have e2 : (2 : Int) ^ 32 = 4294967296 := by decide
        unfold U32 at ha
        simp only [aluV, alI, hk, e, e2]
        simp
        omega) (by simp [aluB, alI, hk]) (ralu_7z op a b h0 h1 ha hb hk h32 w)
  · exact key _ _ (by simp [aluV, alI, hk]) (by simp [aluB, alI, hk]) (ralu_8 op a b h0 h1 ha hb hk w)
  · exact key _ _ (by simp [aluV, alI, hk]) (by simp [aluB, alI, hk]) (ralu_9 op a b h0 h1 ha hb hk w)
  · exact key _ _ (by simp [aluV, alI, hk]) (by simp [aluB, alI, hk]) (ralu_10 op a b h0 h1 ha hb hk w)
  · exact key _ _ (by simp [aluV, alI, hk]) (by simp [aluB, alI, hk]) (ralu_11 op a b h0 h1 ha hb hk w)
  · exact key _ _ (by simp [aluV, alI, hk]) (by simp [aluB, alI, hk]) (ralu_12 op a b h0 h1 ha hb hk w)
  · exact key _ _ (by simp [aluV, alI, hk]) (by simp [aluB, alI, hk]) (ralu_13 op a b h0 h1 ha hb hk w)
  · exact key _ _ (by simp [aluV, alI, hk]) (by simp [aluB, alI, hk]) (ralu_14 op a b h0 h1 ha hb hk w)
  · exact key _ _ (by simp [aluV, alI, hk]) (by simp [aluB, alI, hk]) (ralu_15 op a b h0 h1 ha hb hk w)

set_option maxRecDepth 100000 in
set_option maxHeartbeats 1000000 in
theorem rhd_1y (op a b : Int) (h0 : 0 ≤ op) (h1 : op ≤ 65535) (ha : U32 a) (hb : U32 b) (k : Int) (hk : opK op = k) (hk1 : k = 1) (h : a = b) (w : World) :
    Calls Tryd.prog 42 #[.int .u16 op, .int .u32 a, .int .u32 b] w fun e w' => e = .returned (.bool true) ∧ w' = w := by
  obtain ⟨a0, a1⟩ := ha
  obtain ⟨b0, b1⟩ := hb
  unfold opK at hk
  subst hk1 h
  go_enter Tryd.func42, Tryd.ntmps42
  go_wp2_with fail
  go_ret
  exact ⟨rfl, rfl⟩

set_option maxRecDepth 100000 in
set_option maxHeartbeats 1000000 in
theorem rhd_1n (op a b : Int) (h0 : 0 ≤ op) (h1 : op ≤ 65535) (ha : U32 a) (hb : U32 b) (k : Int) (hk : opK op = k) (hk1 : k = 1) (h : ¬ a = b) (w : World) :
    Calls Tryd.prog 42 #[.int .u16 op, .int .u32 a, .int .u32 b] w fun e w' => e = .returned (.bool false) ∧ w' = w := by
  obtain ⟨a0, a1⟩ := ha
  obtain ⟨b0, b1⟩ := hb
  unfold opK at hk
  subst hk1
  have h2 : (a == b) = false := by simpa using h
  go_enter Tryd.func42, Tryd.ntmps42
  go_wp2_with fail
  go_ret
  exact ⟨rfl, rfl⟩

set_option maxRecDepth 100000 in
set_option maxHeartbeats 1000000 in
theorem rhd_2y (op a b : Int) (h0 : 0 ≤ op) (h1 : op ≤ 65535) (ha : U32 a) (hb : U32 b) (k : Int) (hk : opK op = k) (hk1 : k = 2) (h : b < a) (w : World) :
    Calls Tryd.prog 42 #[.int .u16 op, .int .u32 a, .int .u32 b] w fun e w' => e = .returned (.bool true) ∧ w' = w := by
  obtain ⟨a0, a1⟩ := ha
  obtain ⟨b0, b1⟩ := hb
  unfold opK at hk
  subst hk1
  go_enter Tryd.func42, Tryd.ntmps42
  go_wp2_with fail
  go_ret
  exact ⟨rfl, rfl⟩

set_option maxRecDepth 100000 in
set_option maxHeartbeats 1000000 in
theorem rhd_2n (op a b : Int) (h0 : 0 ≤ op) (h1 : op ≤ 65535) (ha : U32 a) (hb : U32 b) (k : Int) (hk : opK op = k) (hk1 : k = 2) (h : ¬ b < a) (w : World) :
    Calls Tryd.prog 42 #[.int .u16 op, .int .u32 a, .int .u32 b] w fun e w' => e = .returned (.bool false) ∧ w' = w := by
  obtain ⟨a0, a1⟩ := ha
  obtain ⟨b0, b1⟩ := hb
  unfold opK at hk
  subst hk1
  go_enter Tryd.func42, Tryd.ntmps42
  go_wp2_with fail
  go_ret
  exact ⟨rfl, rfl⟩

set_option maxRecDepth 100000 in
set_option maxHeartbeats 1000000 in
theorem rhd_3y (op a b : Int) (h0 : 0 ≤ op) (h1 : op ≤ 65535) (ha : U32 a) (hb : U32 b) (k : Int) (hk : opK op = k) (hk1 : k = 3) (h : b ≤ a) (w : World) :
    Calls Tryd.prog 42 #[.int .u16 op, .int .u32 a, .int .u32 b] w fun e w' => e = .returned (.bool true) ∧ w' = w := by
  obtain ⟨a0, a1⟩ := ha
  obtain ⟨b0, b1⟩ := hb
  unfold opK at hk
  subst hk1
  go_enter Tryd.func42, Tryd.ntmps42
  go_wp2_with fail
  go_ret
  exact ⟨rfl, rfl⟩

set_option maxRecDepth 100000 in
set_option maxHeartbeats 1000000 in
theorem rhd_3n (op a b : Int) (h0 : 0 ≤ op) (h1 : op ≤ 65535) (ha : U32 a) (hb : U32 b) (k : Int) (hk : opK op = k) (hk1 : k = 3) (h : ¬ b ≤ a) (w : World) :
    Calls Tryd.prog 42 #[.int .u16 op, .int .u32 a, .int .u32 b] w fun e w' => e = .returned (.bool false) ∧ w' = w := by
  obtain ⟨a0, a1⟩ := ha
  obtain ⟨b0, b1⟩ := hb
  unfold opK at hk
  subst hk1
  go_enter Tryd.func42, Tryd.ntmps42
  go_wp2_with fail
  go_ret
  exact ⟨rfl, rfl⟩

set_option maxRecDepth 100000 in
set_option maxHeartbeats 1000000 in
theorem rhd_4y (op a b : Int) (h0 : 0 ≤ op) (h1 : op ≤ 65535) (ha : U32 a) (hb : U32 b) (k : Int) (hk : opK op = k) (hk1 : k = 4) (h : 0 < bits .and .u32 a b) (w : World) :
    Calls Tryd.prog 42 #[.int .u16 op, .int .u32 a, .int .u32 b] w fun e w' => e = .returned (.bool true) ∧ w' = w := by
  obtain ⟨a0, a1⟩ := ha
  obtain ⟨b0, b1⟩ := hb
  unfold opK at hk
  subst hk1
  go_enter Tryd.func42, Tryd.ntmps42
  go_wp2_with fail
  go_ret
  exact ⟨rfl, rfl⟩

set_option maxRecDepth 100000 in
set_option maxHeartbeats 1000000 in
theorem rhd_4n (op a b : Int) (h0 : 0 ≤ op) (h1 : op ≤ 65535) (ha : U32 a) (hb : U32 b) (k : Int) (hk : opK op = k) (hk1 : k = 4) (h : ¬ 0 < bits .and .u32 a b) (w : World) :
    Calls Tryd.prog 42 #[.int .u16 op, .int .u32 a, .int .u32 b] w fun e w' => e = .returned (.bool false) ∧ w' = w := by
  obtain ⟨a0, a1⟩ := ha
  obtain ⟨b0, b1⟩ := hb
  unfold opK at hk
  subst hk1
  go_enter Tryd.func42, Tryd.ntmps42
  go_wp2_with fail
  go_ret
  exact ⟨rfl, rfl⟩

set_option maxRecDepth 100000 in
set_option maxHeartbeats 1000000 in
theorem rhd_o (op a b : Int) (h0 : 0 ≤ op) (h1 : op ≤ 65535) (ha : U32 a) (hb : U32 b) (k : Int) (hk : opK op = k) (n1 : ¬ k = 1) (n2 : ¬ k = 2) (n3 : ¬ k = 3) (n4 : ¬ k = 4) (w : World) :
    Calls Tryd.prog 42 #[.int .u16 op, .int .u32 a, .int .u32 b] w fun e w' => e = .returned (.bool false) ∧ w' = w := by
  obtain ⟨a0, a1⟩ := ha
  obtain ⟨b0, b1⟩ := hb
  unfold opK at hk
  go_enter Tryd.func42, Tryd.ntmps42
  go_wp2_with fail
  go_ret
  exact ⟨rfl, rfl⟩

theorem and_nonneg (a b : Int) : 0 ≤ bits .and .u32 a b := by unfold bits; rw [IntKind.wrap_u32]; omega
theorem refhd_any (op a b : Int) (h0 : 0 ≤ op) (h1 : op ≤ 65535) (ha : U32 a) (hb : U32 b) (w : World) :
    Calls Tryd.prog 42 #[.int .u16 op, .int .u32 a, .int .u32 b] w fun e w' => e = .returned (.bool (hdI op a b)) ∧ w' = w := by
  have key : ∀ (o : Bool), hdI op a b = o → (Calls Tryd.prog 42 #[.int .u16 op, .int .u32 a, .int .u32 b] w fun e w' => e = .returned (.bool o) ∧ w' = w) →
      Calls Tryd.prog 42 #[.int .u16 op, .int .u32 a, .int .u32 b] w fun e w' => e = .returned (.bool (hdI op a b)) ∧ w' = w := fun o ho h => by rw [ho]; exact h
  by_cases k1 : opK op = 1
  · by_cases h : a = b
    · exact key _ (by simp [hdI, k1, h]) (rhd_1y op a b h0 h1 ha hb _ rfl k1 h w)
    · exact key _ (by simp [hdI, k1, h]) (rhd_1n op a b h0 h1 ha hb _ rfl k1 h w)
  by_cases k2 : opK op = 2
  · by_cases h : b < a
    · exact key _ (by simp [hdI, k2, h]) (rhd_2y op a b h0 h1 ha hb _ rfl k2 h w)
    · exact key _ (by simp [hdI, k2]; omega) (rhd_2n op a b h0 h1 ha hb _ rfl k2 h w)
  by_cases k3 : opK op = 3
  · by_cases h : b ≤ a
    · exact key _ (by simp [hdI, k3, h]) (rhd_3y op a b h0 h1 ha hb _ rfl k3 h w)
    · exact key _ (by simp [hdI, k3]; omega) (rhd_3n op a b h0 h1 ha hb _ rfl k3 h w)
  by_cases k4 : opK op = 4
  · have hn := and_nonneg a b
    by_cases h : 0 < bits .and .u32 a b
    · exact key _ (by simp [hdI, k4]; omega) (rhd_4y op a b h0 h1 ha hb _ rfl k4 h w)
    · exact key _ (by simp [hdI, k4]; omega) (rhd_4n op a b h0 h1 ha hb _ rfl k4 h w)
  exact key _ (by simp [hdI, k1, k2, k3, k4]) (rhd_o op a b h0 h1 ha hb _ rfl k1 k2 k3 k4 w)
end Go.Proofs.YtehcijockeecpaaDoor
