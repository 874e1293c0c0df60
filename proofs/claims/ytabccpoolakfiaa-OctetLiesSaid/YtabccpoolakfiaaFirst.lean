/-
  OctetFirst: the walk.
-/
import Derived.Test.YtabccpoolakfiaaWakes
import Derived.Deep.RegionHeld3
import Derived.Deep.RegionWith
import Derived.Deep.DrawnRows
namespace Go.Proofs.Ytabccpoolakfiaa
open Go.RowKit

theorem first_odd (x : Int) : (byt x 0 % 2 != x % 2 % 256) = false := by
  have : byt x 0 % 2 = x % 2 % 256 := by
    unfold byt
    simp
    omega
  simp [this]

theorem equal_true (A A' : Option Addr) (n c m c' B B' : Nat) (l : List Int) (w : World) (h : Rd w B A n l) (h' : Rd w B' A' m l) :
    Calls Try.prog 28 #[.slice A n c, .slice A' m c'] w fun e w' => e = .returned (.bool true) ∧ w = w' := by
  have := equal_any A A' n c m c' B B' l l w h h'
  simpa using this

theorem wrap32_bd (x : Int) : 0 ≤ IntKind.u32.wrap x ∧ IntKind.u32.wrap x ≤ 4294967295 := by
  rw [IntKind.wrap_u32']; omega
theorem wrap16_bd (x : Int) : 0 ≤ IntKind.u16.wrap x ∧ IntKind.u16.wrap x ≤ 65535 := by
  rw [IntKind.wrap_u16]; omega
theorem byt_mod (x : Int) (n k : Nat) (hk : k < n) : byt (x % 256 ^ n) k = byt x k := by
  obtain ⟨d, rfl⟩ : ∃ d, n = k + 1 + d := ⟨n - k - 1, by omega⟩
  unfold byt
  rw [pow8]
  have e : (256 : Int) ^ (k + 1 + d) = 256 ^ k * (256 * 256 ^ d) := by rw [Int.pow_add, Int.pow_succ, Int.mul_assoc]
  rw [e]
  have hq := pow256_pos k
  have hx := Int.emod_add_mul_ediv x (256 ^ k * (256 * 256 ^ d))
  obtain ⟨r, hr⟩ : ∃ r, r = x % (256 ^ k * (256 * 256 ^ d)) := ⟨_, rfl⟩
  obtain ⟨q, hq'⟩ : ∃ q, q = x / (256 ^ k * (256 * 256 ^ d)) := ⟨_, rfl⟩
  rw [← hr, ← hq'] at hx
  rw [← hr, ← hx, Int.mul_assoc, Int.add_mul_ediv_left _ _ (by omega), Int.mul_assoc]
  omega
theorem low_mod (x : Int) (n m : Nat) (hm : m ≤ n) : low (x % 256 ^ n) m = low x m := by
  unfold low
  apply List.map_congr_left
  intro k hk
  exact byt_mod x n k (by have := List.mem_range.1 hk; omega)
theorem low_take (x : Int) (n m : Nat) (h : m ≤ n) : (low x n).take m = low x m := by
  unfold low
  rw [← List.map_take, List.take_range, Nat.min_eq_left h]
theorem low_drop (x : Int) (n m : Nat) : (low x (n + m)).drop n = low (x / 256 ^ n) m := by
  unfold low
  apply List.ext_getElem
  · simp
  · intro i h1 h2
    simp only [List.getElem_drop, List.getElem_map, List.getElem_range]
    unfold byt
    have hn := pow256_pos n
    rw [pow8, pow8, Int.pow_add, Int.ediv_ediv, if_neg (by omega), Int.sub_zero]
theorem low_w32 (x : Int) : low (IntKind.u32.wrap x) 4 = low x 4 := by
  rw [IntKind.wrap_u32', show (4294967296 : Int) = 256 ^ 4 by decide]
  exact low_mod x 4 4 (by omega)
theorem low_w16 (x : Int) : low (IntKind.u16.wrap x) 2 = low x 2 := by
  rw [IntKind.wrap_u16, show (65536 : Int) = 256 ^ 2 by decide]
  exact low_mod x 2 2 (by omega)
theorem keep_step {w W w3 : World} {g : Nat} {l : List Int} (b3 : Below W.heap.size W w3) (hh : Wh W g l ∧ Below w.heap.size w W) : Wh w3 g l ∧ Below w.heap.size w w3 :=
  ⟨hh.1.below b3 hh.1.lt, hh.2.trans (b3.mono hh.2.size)⟩
theorem kept_below {w W : World} {g : Nat} {x : Int} (hh : Wh W g (low x 8) ∧ Below w.heap.size w W) : Below w.heap.size w W := hh.2
theorem piece4 {W : World} {g : Nat} {x : Int} {p : Prop} (hh : Wh W g (low x 8) ∧ p) : Rd W (g + 1) (some ⟨g, 0, none⟩) 4 (low x 4) := by
  have := hh.1.piece 0 4 (by rw [low_length]; omega)
  rwa [List.drop_zero, low_take x 8 4 (by omega)] at this
theorem piece2 {W : World} {g : Nat} {x : Int} {p : Prop} (hh : Wh W g (low x 8) ∧ p) : Rd W (g + 1) (some ⟨g, 0, none⟩) 2 (low x 2) := by
  have := hh.1.piece 0 2 (by rw [low_length]; omega)
  rwa [List.drop_zero, low_take x 8 2 (by omega)] at this
theorem piece44 {W : World} {g : Nat} {x : Int} {p : Prop} (hh : Wh W g (low x 8) ∧ p) : Rd W (g + 1) (some ⟨g, 4, none⟩) 4 (low (x / 4294967296) 4) := by
  have := hh.1.piece 4 4 (by rw [low_length]; omega)
  rwa [show (8 : Nat) = 4 + 4 by omega, low_drop x 4 4, List.take_of_length_le (by rw [low_length]; omega)] at this
theorem new4 {W : World} {g : Nat} {y : Int} (hh : Wh W g ([] ++ low (IntKind.u32.wrap y) 4)) : Rd W (g + 1) (some ⟨g, 0, none⟩) 4 (low y 4) := by
  have := hh.rd
  rw [List.nil_append, low_w32] at this
  simpa [low_length] using this
theorem new2 {W : World} {g : Nat} {y : Int} (hh : Wh W g ([] ++ low (IntKind.u16.wrap y) 2)) : Rd W (g + 1) (some ⟨g, 0, none⟩) 2 (low y 2) := by
  have := hh.rd
  rw [List.nil_append, low_w16] at this
  simpa [low_length] using this

theorem eq_lo4 (w : World) (x : Int) (g g2 : Nat) (W : World) (hh : Wh W g (low x 8) ∧ Below w.heap.size w W) (h3 : Wh W g2 ([] ++ low (IntKind.u32.wrap x) 4)) :
    Calls Try.prog 28 #[.slice (some ⟨g, 0, none⟩) 4 8, .slice (some ⟨g2, 0, none⟩) 4 4] W fun e w' => e = .returned (.bool true) ∧ W = w' :=
  equal_true _ _ 4 8 4 4 _ _ (low x 4) _ (piece4 hh) (new4 h3)
theorem eq_lo2 (w : World) (x : Int) (g g2 : Nat) (W : World) (hh : Wh W g (low x 8) ∧ Below w.heap.size w W) (h3 : Wh W g2 ([] ++ low (IntKind.u16.wrap x) 2)) :
    Calls Try.prog 28 #[.slice (some ⟨g, 0, none⟩) 2 8, .slice (some ⟨g2, 0, none⟩) 2 2] W fun e w' => e = .returned (.bool true) ∧ W = w' :=
  equal_true _ _ 2 8 2 2 _ _ (low x 2) _ (piece2 hh) (new2 h3)
theorem eq_hi4 (w : World) (x : Int) (g g2 : Nat) (W : World) (hh : Wh W g (low x 8) ∧ Below w.heap.size w W) (h3 : Wh W g2 ([] ++ low (IntKind.u32.wrap (x / 4294967296)) 4)) :
    Calls Try.prog 28 #[.slice (some ⟨g, 4, none⟩) 4 4, .slice (some ⟨g2, 0, none⟩) 4 4] W fun e w' => e = .returned (.bool true) ∧ W = w' :=
  equal_true _ _ 4 4 4 4 _ _ (low (x / 4294967296) 4) _ (piece44 hh) (new4 h3)

set_option maxHeartbeats 1000000 in
theorem first_walk (x : Int) (hx0 : 0 ≤ x) (w : World) :
    Calls Try.prog 6 #[.int .u64 x] w fun e w' => e = .returned (.bool true) ∧ Below w.heap.size w w' := by
  have hodd := first_odd x
  go_enter Try.func6, Try.ntmps6
  go_wp2_with fail
  refine (wakes_any w).mono ?_
  rintro e w1 ⟨rfl, b1⟩
  go_wp2_with fail
  refine (put64_any none 0 0 [] x _ Rd.nil (by omega)).mono ?_
  rintro e w2 ⟨rfl, h2, b2⟩
  have h2w : Wh w2 w1.heap.size (low x 8) := by simpa using h2
  clear h2
  have c0 : w2.cell? ⟨w1.heap.size, 0, none⟩ = some (.int .u8 (byt x 0)) := by
    rw [h2w.cell (k := 0) (by rw [low_length]; omega), low_getD _ _ _ (by omega)]
  obtain ⟨y0, hy0⟩ := byt_bd x 0
  go_wp2_with fail
  have hb2 : Below w.heap.size w w2 := b1.trans (b2.mono b1.size)
  clear b1 b2 c0 y0 hy0 hodd
  go_region_held3 (fun w' => Wh w' w1.heap.size (low x 8) ∧ Below w.heap.size w w') (first | exact ⟨h2w.drew, hb2.drew⟩ | assumption | exact keep_step (by assumption) (by assumption))
    (first
      | (go_at_call 12; refine (put32_any none 0 0 [] _ (wrap32_bd _).1 (wrap32_bd _).2 _ Rd.nil (by omega)).mono ?_; rintro e w3 ⟨rfl, h3, b3⟩)
      | (go_at_call 11; refine (put16_any none 0 0 [] _ (wrap16_bd _).1 (wrap16_bd _).2 _ Rd.nil (by omega)).mono ?_; rintro e w3 ⟨rfl, h3, b3⟩)
      | (go_at_call 28; ((with_reducible refine (eq_lo4 w x _ _ _ ?_ ?_).mono ?_); assumption; assumption; rintro e w' ⟨rfl, rfl⟩))
      | (go_at_call 28; ((with_reducible refine (eq_lo2 w x _ _ _ ?_ ?_).mono ?_); assumption; assumption; rintro e w' ⟨rfl, rfl⟩))
      | (go_at_call 28; ((with_reducible refine (eq_hi4 w x _ _ _ ?_ ?_).mono ?_); assumption; assumption; rintro e w' ⟨rfl, rfl⟩)))
  go_wp2
  go_ret
  exact ⟨rfl, kept_below (g := w1.heap.size) (x := x) (by assumption)⟩
theorem wf_bd64 {x : Int} (h : (Lit.int .u64 x).wf = true) : 0 ≤ x := by
  simp [Lit.wf, IntKind.min, IntKind.signed] at h
  exact h.1
end Go.Proofs.Ytabccpoolakfiaa
