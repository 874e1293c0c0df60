/-
  The reader's methods: U8, U16, U32, Err.
-/
import Derived.Test.YtndmlbepjcagiaaDoorReads32
namespace Go.Proofs.YtndmlbepjcagiaaDoor
open Go.RowKit

theorem seen_bd1 {l : List Int} (h : Byt l) (f : Int) : 0 ≤ numL (seen l f 1) ∧ numL (seen l f 1) ≤ 255 := by
  have h1 := seen_bd h f 1
  have h2 : (256 : Int) ^ 1 = 256 := by decide
  omega
theorem seen_bd2 {l : List Int} (h : Byt l) (f : Int) : 0 ≤ numL (seen l f 2) ∧ numL (seen l f 2) ≤ 65535 := by
  have h1 := seen_bd h f 2
  have h2 : (256 : Int) ^ 2 = 65536 := by decide
  omega
set_option maxHeartbeats 400000 in
theorem u8_any (r : Nat) (l : List Int) (f : Int) (w : World) (h : Rdr w r l f) :
    Calls Tryd.prog 42 #[.pointer (some ⟨r, 0, none⟩)] w fun e w' =>
      e = .returned (.int .u8 (numL (seen l f 1))) ∧ Rdr w' r (left l f 1) (falt l f 1) ∧ But r w w' := by
  obtain ⟨h0, h1⟩ := seen_bd1 h.byt f
  go_enter Tryd.func42, Tryd.ntmps42
  go_wp2_with (go_at_call 50; (refine (number_any r 1 l f _ h (by omega)).mono ?_; rintro e w' ⟨rfl, q1, q2⟩))
  go_ret
  exact ⟨rfl, q1, q2⟩
set_option maxHeartbeats 400000 in
theorem u16_any (r : Nat) (l : List Int) (f : Int) (w : World) (h : Rdr w r l f) :
    Calls Tryd.prog 41 #[.pointer (some ⟨r, 0, none⟩)] w fun e w' =>
      e = .returned (.int .u16 (numL (seen l f 2))) ∧ Rdr w' r (left l f 2) (falt l f 2) ∧ But r w w' := by
  obtain ⟨h0, h1⟩ := seen_bd2 h.byt f
  go_enter Tryd.func41, Tryd.ntmps41
  go_wp2_with (go_at_call 50; (refine (number_any r 2 l f _ h (by omega)).mono ?_; rintro e w' ⟨rfl, q1, q2⟩))
  go_ret
  exact ⟨rfl, q1, q2⟩
set_option maxHeartbeats 400000 in
theorem err_any (r : Nat) (l : List Int) (f : Int) (w : World) (h : Rdr w r l f) :
    Calls Tryd.prog 44 #[.pointer (some ⟨r, 0, none⟩)] w fun e w' => e = .returned (.int .i64 f) ∧ w = w' := by
  obtain ⟨A, c, hc1, hc2, hk, hd⟩ := h.blk
  have hcf : w.cell? ⟨r, 1, none⟩ = some (.int .i64 f) := by simp [World.cell?, hk]
  go_enter Tryd.func44, Tryd.ntmps44
  go_wp2
  go_ret
  exact ⟨rfl, rfl⟩
end Go.Proofs.YtndmlbepjcagiaaDoor
