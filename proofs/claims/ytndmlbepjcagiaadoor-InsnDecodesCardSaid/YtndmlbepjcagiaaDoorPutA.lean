/-
  octet.put: the number's bytes behind b's, in a new block.
-/
import Derived.Test.YtndmlbepjcagiaaDoorLaws
namespace Go.Proofs.YtndmlbepjcagiaaDoor
open Go.RowKit

theorem put_start (l : List Int) (n wd : Nat) (x : Int) : (List.replicate (n + wd) (0 : Int)).take 0 ++ l ++ (List.replicate (n + wd) 0).drop (0 + n) = l ++ (low x 0 ++ List.replicate (wd - 0) 0) := by
  simp [low]
theorem put_step (l : List Int) (n wd k : Nat) (x : Int) (hl : l.length = n) (hk : k < wd) :
    (l ++ (low x k ++ List.replicate (wd - k) 0)).set (n + k) (byt x k) = l ++ (low x (k + 1) ++ List.replicate (wd - (k + 1)) 0) := by
  rw [List.set_append_right _ _ (by omega), List.set_append_right _ _ (by rw [low_length]; omega), low_succ, low_length]
  congr 1
  obtain ⟨m, hm⟩ : ∃ m, wd - k = m + 1 := ⟨wd - k - 1, by omega⟩
  rw [hm, show wd - (k + 1) = m by omega, show n + k - l.length - k = 0 by omega, List.replicate_succ]
  simp
theorem put_len (l : List Int) (n wd k : Nat) (x : Int) (hl : l.length = n) (hk : k ≤ wd) : (l ++ (low x k ++ List.replicate (wd - k) 0)).length = n + wd := by
  simp [low_length]; omega
theorem put_end (l : List Int) (wd : Nat) (x : Int) : l ++ (low x wd ++ List.replicate (wd - wd) 0) = l ++ low x wd := by simp

set_option maxHeartbeats 400000 in
theorem put_any (A : Option Addr) (n c : Nat) (l : List Int) (x : Int) (wd : Nat) (hwd : wd ≤ 8) (w : World) (hr : Rd w w.heap.size A n l) (hn : n ≤ 1000000) :
    Calls Tryd.prog 48 #[.slice A n c, .int .u64 x, .int .i64 wd] w fun e w' =>
      e = .returned (.slice (some ⟨w.heap.size, 0, none⟩) (n + wd) (n + wd)) ∧ Wh w' w.heap.size (l ++ low x wd) ∧ Below w.heap.size w w' := by
  go_enter Tryd.func48, Tryd.ntmps48
  go_wp2_with (first
    | (at_make; refine wpList_make_bytes rfl (.tmp 12) (.tmp 12) rfl _ _ (n + wd) rfl rfl (by omega) (by omega) (by omega) ?_; intro w1 hw1 hb1)
    | (with_reducible refine wpList_copy_bytes rfl (.tmp 14) (.tmp 15) rfl w.heap.size 0 A (n + wd) (n + wd) n c rfl rfl _ l hw1 w.heap.size (hr.below hb1) (by omega) (by simp) w.heap.size w hb1 (Nat.le_refl _) ?_; intro w2 hw2 hb2))
  have hl := hr.len
  have HL := Lib.hid hl
  rw [put_start l n wd x] at hw2
  clear hl
  go_loopw [18] (fun i wr => ∃ k : Nat, k ≤ wd ∧ i = .int .i64 k ∧ Wh wr w.heap.size (l ++ (low x k ++ List.replicate (wd - k) 0)) ∧ Below w.heap.size w wr) (fun i _ => wd - (intOf i).toNat)
  case atStart => exact ⟨0, Nat.zero_le _, rfl, hw2, hb2⟩
  case round =>
    obtain ⟨k, hk, rfl, hwr, hbr⟩ := hrel
    by_cases hlt : k < wd
    · have hc := hwr.cell (k := n + k) (by rw [put_len l n wd k x HL.out hk]; omega)
      have hf := hwr.frozen (n + k)
      go_wp2
      go_roundw
      case rel =>
        refine ⟨k + 1, by omega, by go_num, ?_, hbr.setCell (by simp) _⟩
        have h := hwr.set_ (n + k) (byt x k) (byt_bd x k)
        rw [put_step l n wd k x HL.out hlt] at h
        exact h
      case measure => simp [intOf]; omega
    · go_wp2
      go_ret
      obtain rfl : k = wd := by omega
      rw [put_end] at hwr
      exact ⟨rfl, hwr, hbr⟩

end Go.Proofs.YtndmlbepjcagiaaDoor
