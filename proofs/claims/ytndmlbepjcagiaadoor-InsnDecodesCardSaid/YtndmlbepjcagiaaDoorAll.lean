/-
  insn.EncodeAll, insn.DecodeAll; few; slices.Equal.
-/
import Derived.Test.YtndmlbepjcagiaaDoorRowD
namespace Go.Proofs.YtndmlbepjcagiaaDoor
open Go.RowKit

/-- The instructions that a list of bytes is. -/
def inB (l : List Ins) : List Int := l.flatMap bytI

set_option maxHeartbeats 1000000 in
theorem encAll_ok (A : Option Addr) (m cap : Nat) (f : Nat → Ins) (w : World) (hA : Ri w w.heap.size A m f) (hcap : m ≤ cap) (hm : m ≤ 255) :
    Calls Tryd.prog 18 #[.slice A m cap] w fun e w' =>
      ∃ A' c', e = .returned (.tuple #[.slice A' (8 * m) c', .int .i64 0]) ∧ Ow w' w.heap.size A' (8 * m) c' ((List.range m).flatMap fun k => bytI (f k)) ∧ Below w.heap.size w w' := by
  have hm' : (m : Int) ≤ 255 := by omega
  go_enter Tryd.func18, Tryd.ntmps18
  go_wp2_with fail
  refine (rowE_any A m cap f w hA hcap (by omega)).mono ?_
  rintro e w1 ⟨A', c', rfl, ho, hb⟩
  go_wp2_with fail
  go_ret2
  exact ⟨A', c', rfl, ho, hb⟩

set_option maxHeartbeats 1000000 in
theorem encAll_long (A : Option Addr) (m cap : Nat) (w : World) (hm : 255 < m) :
    Calls Tryd.prog 18 #[.slice A m cap] w fun e w' => e = .returned (.tuple #[.slice none 0 0, .int .i64 3]) ∧ w' = w := by
  have hm' : (255 : Int) < m := by omega
  go_enter Tryd.func18, Tryd.ntmps18
  go_wp2_with fail
  go_ret2
  exact ⟨rfl, rfl⟩

set_option maxHeartbeats 1000000 in
theorem decAll_ok (A : Option Addr) (m L cap : Nat) (l : List Int) (w : World) (hA : Rd w w.heap.size A L l) (hL : L = m * 8) (hcap : L ≤ cap) (hm : m ≤ 255) :
    Calls Tryd.prog 26 #[.slice A L cap] w fun e w' =>
      ∃ A' c', e = .returned (.tuple #[.slice A' m c', .int .i64 0]) ∧ w'.ownsRow w.heap.size 48 4 (.slice A' m c') m ((List.range m).flatMap fun k => celI (dI l k)) ∧ Below w.heap.size w w' := by
  have h1 : (L : Int) ≤ 2040 := by omega
  have h2 : (L : Int) % 8 = 0 := by omega
  have h3 : (L : Int).tmod 8 = 0 := by rw [Int.tmod_eq_emod_of_nonneg (by omega)]; exact h2
  have HR := Lib.hid (rowD_any A m L cap l w hA hL hcap (by omega))
  have HL := Lib.hid hL
  clear hL
  go_enter Tryd.func26, Tryd.ntmps26
  go_wp2_with fail
  refine HR.out.mono ?_
  rintro e w1 ⟨A', c', rfl, ho, hb⟩
  go_wp2_with fail
  go_ret2
  exact ⟨A', c', rfl, ho, hb⟩

set_option maxHeartbeats 1000000 in
theorem decAll_long (A : Option Addr) (L cap : Nat) (w : World) (hm : 2040 < L) :
    Calls Tryd.prog 26 #[.slice A L cap] w fun e w' => e = .returned (.tuple #[.slice none 0 0, .int .i64 3]) ∧ w' = w := by
  have hm' : (2040 : Int) < L := by omega
  go_enter Tryd.func26, Tryd.ntmps26
  go_wp2_with fail
  go_ret2
  exact ⟨rfl, rfl⟩

set_option maxHeartbeats 1000000 in
theorem decAll_row (A : Option Addr) (L cap : Nat) (w : World) (hm : L ≤ 2040) (hr : L % 8 ≠ 0) :
    Calls Tryd.prog 26 #[.slice A L cap] w fun e w' => e = .returned (.tuple #[.slice none 0 0, .int .i64 120]) ∧ w' = w := by
  have h1 : (L : Int) ≤ 2040 := by omega
  have h2 : ¬ (L : Int) % 8 = 0 := by omega
  have h3 : ¬ (L : Int).tmod 8 = 0 := by rw [Int.tmod_eq_emod_of_nonneg (by omega)]; exact h2
  go_enter Tryd.func26, Tryd.ntmps26
  go_wp2_with fail
  go_ret2
  exact ⟨rfl, rfl⟩
end Go.Proofs.YtndmlbepjcagiaaDoor
