/-
  check.met: the function over which one ranges hands over the places that are reached, each with the greatest number of steps up to it.
-/
import Derived.Test.YtepkhkfdokinmaaDoorMapI
import Derived.Test.YtepkhkfdokinmaaDoorCkNext
namespace Go.Proofs.YtepkhkfdokinmaaDoor
open Go.RowKit Go.Shelf Go.Maps
attribute [local go_sem] Oper.semAt_some

theorem foldl_take {l : List Nat} {k x : Nat} (h : k < l.length) : (l.take (k + 1)).foldl max x = max ((l.take k).foldl max x) (l.getD k 0) := by
  rw [List.take_add_one, List.foldl_append]
  simp [List.getD, h]

set_option maxHeartbeats 1000000 in
theorem great_any (A : Option Addr) (n c B x : Nat) (l : List Nat) (w : World) (h : Rn w B A l) (hn : n = l.length) (h300 : n ≤ 1000) :
    Calls Tryd.prog 50 #[.int .i64 x, .slice A n c] w fun e w' => e = .returned (.int .i64 ((l.foldl max x : Nat) : Int)) ∧ w' = w := by
  have HL := Lib.hid hn
  clear hn
  go_enter Tryd.func50, Tryd.ntmps50
  go_wp2
  go_loopw [0, 9] (fun m i wr => ∃ k : Nat, k ≤ n ∧ i = .int .i64 k ∧ m = .int .i64 (((l.take k).foldl max x : Nat) : Int) ∧ wr = w) (fun _ i _ => n - (intOf i).toNat)
  case atStart => exact ⟨0, Nat.zero_le _, rfl, rfl, rfl⟩
  case round =>
    obtain ⟨k, hk, rfl, rfl, rfl⟩ := hrel
    by_cases hlt : k < n
    · have hkl : k < l.length := by rw [← HL.out]; exact hlt
      obtain ⟨b, off, rfl, _, c0⟩ := h k hkl
      have hf := Lib.hid (foldl_take (x := x) hkl)
      obtain ⟨y, hy⟩ : ∃ y, l.getD k 0 = y := ⟨_, rfl⟩
      obtain ⟨z, hz⟩ : ∃ z, (l.take k).foldl max x = z := ⟨_, rfl⟩
      rw [hy] at c0 hf
      rw [hz] at hf ⊢
      have hlt' : (k : Int) < n := by omega
      clear hy hz
      by_cases hyz : z < y
      · have hyz' : (z : Int) < y := by omega
        go_wp2
        go_roundw
        case rel => exact ⟨k + 1, by omega, by go_num, by rw [hf.out, show max z y = y by omega], trivial⟩
        case measure => simp [intOf]; omega
      · have hyz' : ¬ (z : Int) < y := by omega
        go_wp2
        go_roundw
        case rel => exact ⟨k + 1, by omega, by go_num, by rw [hf.out, show max z y = z by omega], trivial⟩
        case measure => simp [intOf]; omega
    · obtain rfl : k = n := by omega
      have ht : l.take k = l := List.take_of_length_le (by rw [← HL.out]; exact Nat.le_refl _)
      rw [ht]
      go_wp2
      go_ret
      exact ⟨rfl, rfl⟩
theorem great_one (g x y : Nat) (w : World) (c0 : w.cell? ⟨g, 0, none⟩ = some (.int .i64 (y : Int))) :
    Calls Tryd.prog 50 #[.int .i64 x, .slice (some ⟨g, 0, none⟩) 1 1] w fun e w' => e = .returned (.int .i64 ((max x y : Nat) : Int)) ∧ w' = w :=
  great_any (some ⟨g, 0, none⟩) 1 1 (g + 1) x [y] w (fun k hk => by
    obtain rfl : k = 0 := by simpa using hk
    exact ⟨g, 0, rfl, by omega, by simpa using c0⟩) rfl (by omega)

set_option maxHeartbeats 1000000 in
theorem met_any (A : Option Addr) (m cap : Nat) (w : World) :
    Calls Tryd.prog 49 #[.slice A m cap] w fun e w' => e = .returned (.func (.func 69) #[] #[.pointer (some ⟨w.heap.size, 0, none⟩)]) ∧ w' = w.alloc (.cells #[.slice A m cap] 28) := by
  go_enter Tryd.func49, Tryd.ntmps49
  go_wp2
  go_ret
  exact ⟨rfl, rfl⟩
end Go.Proofs.YtepkhkfdokinmaaDoor
