/-
  The reference's texts of instructions: a number's digits.
-/
import Derived.Test.YtceeinljakcdkaaDoorAsmM
import Derived.Laws.Concat
import Derived.Lib.ItoaLen
namespace Go.Proofs.YtceeinljakcdkaaDoor
open Go.RowKit

theorem bs_append (a b : List UInt8) : bs a ++ bs b = bs (a ++ b) := by
  apply ByteArray.ext
  simp [bs]
theorem enc_dig (d : Nat) (h : d < 10) : Utf8.encode ((48 : Int) + (d : Int)) = bs [UInt8.ofNat (48 + d)] := by
  have : d = 0 ∨ d = 1 ∨ d = 2 ∨ d = 3 ∨ d = 4 ∨ d = 5 ∨ d = 6 ∨ d = 7 ∨ d = 8 ∨ d = 9 := by omega
  rcases this with rfl | rfl | rfl | rfl | rfl | rfl | rfl | rfl | rfl | rfl <;> rfl
set_option maxRecDepth 100000 in
set_option maxHeartbeats 4000000 in
theorem rdigits_any (u : Nat) (hu : u < 4294967296) (w : World) :
    Calls Tryd.prog 37 #[.int .u32 u] w fun e w' => e = .returned (.string (bs (Lib.decDigits u))) ∧ w' = w := by
  have hl : (Lib.decDigits u).length ≤ 20 := by
    rw [Lib.decDigits_length]
    exact Lib.nDigits_le20 u (by omega)
  obtain ⟨D, hD⟩ : ∃ D, Lib.decDigits u = D := ⟨_, rfl⟩
  rw [hD] at hl ⊢
  have HU := Lib.hid hu
  clear hu
  go_enter Tryd.func37, Tryd.ntmps37
  go_wp2
  go_loopw [0, 3] (fun x s wr => ∃ (k : Nat) (t : List UInt8), wr = w ∧ k ≤ u ∧ x = .int .u32 k ∧ s = .string (bs t) ∧ D = Lib.decDigits k ++ t) (fun x _ _ => (intOf x).toNat)
  case atStart => exact ⟨u, [], rfl, Nat.le_refl _, rfl, rfl, by rw [hD]; simp⟩
  case round =>
    obtain ⟨k, t, rfl, hk, rfl, rfl, ht⟩ := hrel
    have htl : t.length ≤ 20 := by rw [ht, List.length_append] at hl; omega
    obtain ⟨c, hc⟩ : ∃ c : UInt8, UInt8.ofNat (48 + k % 10) = c := ⟨_, rfl⟩
    have hadd := run_string_add_sum (P := Tryd.prog) wr (bs [c]) (bs t) (by rw [bs_size, bs_size]; simp; omega)
    rw [bs_append] at hadd
    have hen : Utf8.encode ((48 : Int) + (k : Int) % 10) = bs [c] := by
      have := enc_dig (k % 10) (by omega)
      rwa [Int.natCast_emod, hc] at this
    have hwr : IntKind.i32.wrap ((48 : Int) + (k : Int) % 10) = (48 : Int) + (k : Int) % 10 := by
      simp only [IntKind.wrap_i32]
      omega
    by_cases h10 : k < 10
    · have hz : (k : Int) / 10 = 0 := by omega
      have hDv : D = [c] ++ t := by rw [ht, Lib.decDigits_one h10, ← hc, Nat.mod_eq_of_lt h10]
      have HV := Lib.hid hDv
      clear ht hDv hl htl hD hc
      iterate 44 go_step
      go_wp2
      go_ret
      exact ⟨by rw [HV.out]; rfl, rfl⟩
    · have hz : ¬ (k : Int) / 10 = 0 := by omega
      have hq : (k : Int) / 10 % 4294967296 = (k : Int) / 10 := by have := HU.out; omega
      have hDv : D = Lib.decDigits (k / 10) ++ ([c] ++ t) := by rw [ht, Lib.decDigits, dif_neg h10, ← hc, List.append_assoc]
      have HV := Lib.hid hDv
      clear ht hDv hl htl hD hc
      iterate 44 go_step
      have H10 := Lib.hid h10
      clear hq hwr hen hadd h10
      go_wp2
      have := H10.out
      exact ⟨⟨k / 10, [c] ++ t, trivial, by omega, by simp, rfl, HV.out⟩, by simp [intOf]; omega⟩
end Go.Proofs.YtceeinljakcdkaaDoor
