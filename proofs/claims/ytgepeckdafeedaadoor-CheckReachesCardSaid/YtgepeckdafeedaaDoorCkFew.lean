/-
  few, SameInts, and that the layer is awake.
-/
import Derived.Test.YtgepeckdafeedaaDoorCkCheck
import Derived.Test.YtgepeckdafeedaaDoorCkNext
import Derived.Test.YtgepeckdafeedaaDoorRefSame
namespace Go.Proofs.YtgepeckdafeedaaDoor
open Go.RowKit

set_option maxRecDepth 100000 in
set_option maxHeartbeats 1000000 in
theorem few4_any (A : Option Addr) (n c : Nat) (f : Nat → Ins) (w : World) (hA : Ri w w.heap.size A n f) (hc : n ≤ c) (m : Nat) (hm : m = min n 65) :
    Calls Tryd.prog 9 #[.slice A n c] w fun e w' => ∃ A' c', e = .returned (.slice A' m c') ∧ w'.ownsRow w.heap.size 42 4 (.slice A' m c') m ((List.range m).flatMap fun k => celI (f k)) ∧ Below w.heap.size w w' := by
  have hb := (Below.refl w.heap.size w).alloc (Nat.le_refl _) (.cells #[] 42)
  have hA1 := (hA.short (m := m) (by omega)).below hb (Nat.le_refl _)
  have hg := heap_alloc_new w (.cells #[] 42)
  have h300 : m ≤ 300 := by omega
  rcases Nat.lt_or_ge 65 n with h | h
  · have h' : (65 : Int) < n := by omega
    have hx := Lib.hid (show (Value.slice A 65 c) = .slice A m c by rw [show m = 65 by omega])
    clear hm
    go_enter Tryd.func9, Tryd.ntmps9
    go_wp2_with (at_builtin; refine wpList_few rfl (.tmp 3) (.tmp 8) rfl w.heap.size rfl hg A w.heap.size m c f (Eq.trans rfl hx.out) hA1 h300 ?_; intro A2 c2 w2 ho hb2)
    go_ret
    exact ⟨A2, c2, rfl, ho, hb.trans hb2⟩
  · obtain rfl : m = n := by omega
    have h' : (m : Int) ≤ 65 := by omega
    clear hm
    go_enter Tryd.func9, Tryd.ntmps9
    go_wp2_with (at_builtin; with_reducible refine wpList_few rfl (.tmp 3) (.tmp 8) rfl w.heap.size rfl hg A w.heap.size m c f rfl hA1 h300 ?_; intro A2 c2 w2 ho hb2)
    go_ret
    exact ⟨A2, c2, rfl, ho, hb.trans hb2⟩

set_option maxHeartbeats 1000000 in
theorem sameints_true (A A' : Option Addr) (n n' c c' B B' : Nat) (l : List Nat) (w : World) (h : Rn w B A l) (h' : Rn w B' A' l) (hn : n = l.length) (hn' : n' = l.length) (hl : l.length ≤ 300) :
    Calls Tryd.prog 15 #[.slice A n c, .slice A' n' c'] w fun e w' => e = .returned (.bool true) ∧ Below w.heap.size w w' := by
  obtain ⟨g, hg⟩ : ∃ g : Nat → Nat, ∀ k, l.getD k 0 = g k := ⟨fun k => l.getD k 0, fun _ => rfl⟩
  have H : ∀ k, k < n → ∃ b off, A = some ⟨b, off, none⟩ ∧ b < B ∧ w.cell? ⟨b, off + k, none⟩ = some (.int .i64 ((g k : Nat) : Int)) := fun k hk => by rw [← hg]; exact h k (by omega)
  have H' : ∀ k, k < n → ∃ b off, A' = some ⟨b, off, none⟩ ∧ b < B' ∧ w.cell? ⟨b, off + k, none⟩ = some (.int .i64 ((g k : Nat) : Int)) := fun k hk => by rw [← hg]; exact h' k (by omega)
  have h300 : n ≤ 300 := by omega
  obtain rfl : n' = n := by omega
  clear hn hn' hl hg h h'
  go_enter Tryd.func15, Tryd.ntmps15
  go_wp2
  go_loopw [13] (fun i wr => ∃ k : Nat, k ≤ n' ∧ ∃ q, wr = w.drewN q ∧ i = .int .i64 k) (fun i _ => n' - (intOf i).toNat)
  case atStart => exact ⟨0, Nat.zero_le _, 0, rfl, rfl⟩
  case round =>
    obtain ⟨k, hk, q, rfl, rfl⟩ := hrel
    by_cases hlt : k < n'
    · obtain ⟨b, off, rfl, _, p0⟩ := H k hlt
      obtain ⟨b', off', rfl, _, r0⟩ := H' k hlt
      have hlt' : (k : Int) < n' := by omega
      go_wp2
      go_quiet (fail)
      go_wp2
      go_roundw
      case rel => exact ⟨k + 1, by omega, q + nq, rfl, by go_num⟩
      case measure => simp [intOf]; omega
    · go_wp2
      go_ret
      exact ⟨rfl, below_drewN (Below.refl _ _) q⟩
end Go.Proofs.YtgepeckdafeedaaDoor
