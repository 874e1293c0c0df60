/-
  The reader's methods: U8, U16, U32, U64, Left, Err; of nil, too.
-/
import Derived.Test.YtabccpoolakfiaaRead
namespace Go.Proofs.Ytabccpoolakfiaa
open Go.RowKit

theorem seen_bd {l : List Int} (h : Byt l) (f : Int) (n : Nat) : 0 ≤ numL (seen l f n) ∧ numL (seen l f n) < 256 ^ n := by
  unfold seen
  split
  · rename_i hc
    have := numL_bd (h.take n)
    rwa [List.length_take, Nat.min_eq_left hc.2] at this
  · have := pow256_pos n
    simp only [numL]
    omega
theorem seen_bd1 {l : List Int} (h : Byt l) (f : Int) : 0 ≤ numL (seen l f 1) ∧ numL (seen l f 1) ≤ 255 := by
  have h1 := seen_bd h f 1
  have h2 : (256 : Int) ^ 1 = 256 := by decide
  omega
theorem seen_bd2 {l : List Int} (h : Byt l) (f : Int) : 0 ≤ numL (seen l f 2) ∧ numL (seen l f 2) ≤ 65535 := by
  have h1 := seen_bd h f 2
  have h2 : (256 : Int) ^ 2 = 65536 := by decide
  omega
theorem seen_bd4 {l : List Int} (h : Byt l) (f : Int) : 0 ≤ numL (seen l f 4) ∧ numL (seen l f 4) ≤ 4294967295 := by
  have h1 := seen_bd h f 4
  have h2 : (256 : Int) ^ 4 = 4294967296 := by decide
  omega

set_option maxHeartbeats 400000 in
theorem u8_any (r : Nat) (l : List Int) (f : Int) (w : World) (h : Rdr w r l f) :
    Calls Try.prog 22 #[.pointer (some ⟨r, 0, none⟩)] w fun e w' =>
      e = .returned (.int .u8 (numL (seen l f 1))) ∧ Rdr w' r (left l f 1) (falt l f 1) ∧ But r w w' := by
  obtain ⟨h0, h1⟩ := seen_bd1 h.byt f
  go_enter Try.func22, Try.ntmps22
  go_wp2_with (go_at_call 35; (refine (number_any r 1 l f _ h (by omega)).mono ?_; rintro e w' ⟨rfl, q1, q2⟩))
  go_ret
  exact ⟨rfl, q1, q2⟩
set_option maxHeartbeats 400000 in
theorem u16_any (r : Nat) (l : List Int) (f : Int) (w : World) (h : Rdr w r l f) :
    Calls Try.prog 23 #[.pointer (some ⟨r, 0, none⟩)] w fun e w' =>
      e = .returned (.int .u16 (numL (seen l f 2))) ∧ Rdr w' r (left l f 2) (falt l f 2) ∧ But r w w' := by
  obtain ⟨h0, h1⟩ := seen_bd2 h.byt f
  go_enter Try.func23, Try.ntmps23
  go_wp2_with (go_at_call 35; (refine (number_any r 2 l f _ h (by omega)).mono ?_; rintro e w' ⟨rfl, q1, q2⟩))
  go_ret
  exact ⟨rfl, q1, q2⟩
set_option maxHeartbeats 400000 in
theorem u32_any (r : Nat) (l : List Int) (f : Int) (w : World) (h : Rdr w r l f) :
    Calls Try.prog 24 #[.pointer (some ⟨r, 0, none⟩)] w fun e w' =>
      e = .returned (.int .u32 (numL (seen l f 4))) ∧ Rdr w' r (left l f 4) (falt l f 4) ∧ But r w w' := by
  obtain ⟨h0, h1⟩ := seen_bd4 h.byt f
  go_enter Try.func24, Try.ntmps24
  go_wp2_with (go_at_call 35; (refine (number_any r 4 l f _ h (by omega)).mono ?_; rintro e w' ⟨rfl, q1, q2⟩))
  go_ret
  exact ⟨rfl, q1, q2⟩
set_option maxHeartbeats 400000 in
theorem u64_any (r : Nat) (l : List Int) (f : Int) (w : World) (h : Rdr w r l f) :
    Calls Try.prog 25 #[.pointer (some ⟨r, 0, none⟩)] w fun e w' =>
      e = .returned (.int .u64 (numL (seen l f 8))) ∧ Rdr w' r (left l f 8) (falt l f 8) ∧ But r w w' := by
  go_enter Try.func25, Try.ntmps25
  go_wp2_with (go_at_call 35; (refine (number_any r 8 l f _ h (by omega)).mono ?_; rintro e w' ⟨rfl, q1, q2⟩))
  go_ret
  exact ⟨rfl, q1, q2⟩
set_option maxHeartbeats 400000 in
theorem left_any (r : Nat) (l : List Int) (f : Int) (w : World) (h : Rdr w r l f) :
    Calls Try.prog 26 #[.pointer (some ⟨r, 0, none⟩)] w fun e w' => e = .returned (.int .i64 l.length) ∧ w = w' := by
  obtain ⟨A, c, hc1, hc2, hk, hd⟩ := h.blk
  have hc0 : w.cell? ⟨r, 0, none⟩ = some (.slice A l.length c) := by simp [World.cell?, hk]
  go_enter Try.func26, Try.ntmps26
  go_wp2
  go_ret
  exact ⟨rfl, rfl⟩
set_option maxHeartbeats 400000 in
theorem err_any (r : Nat) (l : List Int) (f : Int) (w : World) (h : Rdr w r l f) :
    Calls Try.prog 27 #[.pointer (some ⟨r, 0, none⟩)] w fun e w' => e = .returned (.int .i64 f) ∧ w = w' := by
  obtain ⟨A, c, hc1, hc2, hk, hd⟩ := h.blk
  have hcf : w.cell? ⟨r, 1, none⟩ = some (.int .i64 f) := by simp [World.cell?, hk]
  go_enter Try.func27, Try.ntmps27
  go_wp2
  go_ret
  exact ⟨rfl, rfl⟩
set_option maxHeartbeats 400000 in
theorem left_nil (w : World) : Calls Try.prog 26 #[.pointer none] w fun e w' => e = .returned (.int .i64 0) ∧ w = w' := by
  go_enter Try.func26, Try.ntmps26
  go_wp2
  go_ret
  exact ⟨rfl, rfl⟩
set_option maxHeartbeats 400000 in
theorem err_nil (w : World) : Calls Try.prog 27 #[.pointer none] w fun e w' => e = .returned (.int .i64 1) ∧ w = w' := by
  go_enter Try.func27, Try.ntmps27
  go_wp2
  go_ret
  exact ⟨rfl, rfl⟩
set_option maxHeartbeats 400000 in
theorem number_nil (wd : Nat) (w : World) (_h8 : wd ≤ 8) :
    Calls Try.prog 35 #[.pointer none, .int .i64 wd] w fun e w' => e = .returned (.int .u64 0) ∧ Below w.heap.size w w' := by
  go_enter Try.func35, Try.ntmps35
  go_wp2_with (go_in)
  refine bodyPost_ret (results_none rfl _ _ _) rfl ?_
  go_wp2
  go_ret
  exact ⟨rfl, two_below w _ _⟩
set_option maxHeartbeats 400000 in
theorem u8_nil (w : World) : Calls Try.prog 22 #[.pointer none] w fun e w' => e = .returned (.int .u8 0) ∧ Below w.heap.size w w' := by
  go_enter Try.func22, Try.ntmps22
  go_wp2_with (go_at_call 35; (refine (number_nil 1 _ (by omega)).mono ?_; rintro e w' ⟨rfl, q1⟩))
  go_ret
  exact ⟨rfl, q1⟩
set_option maxHeartbeats 400000 in
theorem u16_nil (w : World) : Calls Try.prog 23 #[.pointer none] w fun e w' => e = .returned (.int .u16 0) ∧ Below w.heap.size w w' := by
  go_enter Try.func23, Try.ntmps23
  go_wp2_with (go_at_call 35; (refine (number_nil 2 _ (by omega)).mono ?_; rintro e w' ⟨rfl, q1⟩))
  go_ret
  exact ⟨rfl, q1⟩
set_option maxHeartbeats 400000 in
theorem u32_nil (w : World) : Calls Try.prog 24 #[.pointer none] w fun e w' => e = .returned (.int .u32 0) ∧ Below w.heap.size w w' := by
  go_enter Try.func24, Try.ntmps24
  go_wp2_with (go_at_call 35; (refine (number_nil 4 _ (by omega)).mono ?_; rintro e w' ⟨rfl, q1⟩))
  go_ret
  exact ⟨rfl, q1⟩
set_option maxHeartbeats 400000 in
theorem u64_nil (w : World) : Calls Try.prog 25 #[.pointer none] w fun e w' => e = .returned (.int .u64 0) ∧ Below w.heap.size w w' := by
  go_enter Try.func25, Try.ntmps25
  go_wp2_with (go_at_call 35; (refine (number_nil 8 _ (by omega)).mono ?_; rintro e w' ⟨rfl, q1⟩))
  go_ret
  exact ⟨rfl, q1⟩
end Go.Proofs.Ytabccpoolakfiaa
