/-
  wakes: the layer's short look at itself answers true and writes nothing that was there.
-/
import Derived.Test.YtabccpoolakfiaaPut
import Derived.Test.YtabccpoolakfiaaAdd
import Derived.Test.YtabccpoolakfiaaReads
import Derived.Test.YtabccpoolakfiaaEqual
namespace Go.Proofs.Ytabccpoolakfiaa
open Go.RowKit

theorem u8_at (r : Nat) (l : List Int) (f : Int) (w : World) (h : Rdr w r l f) (x : Int) (l' : List Int) (f' : Int) (hx : numL (seen l f 1) = x) (hl : left l f 1 = l') (hf : falt l f 1 = f') :
    Calls Try.prog 22 #[.pointer (some ⟨r, 0, none⟩)] w fun e w' => e = .returned (.int .u8 x) ∧ Rdr w' r l' f' ∧ But r w w' := by
  subst hx; subst hl; subst hf; exact u8_any r l f w h
theorem u16_at (r : Nat) (l : List Int) (f : Int) (w : World) (h : Rdr w r l f) (x : Int) (l' : List Int) (f' : Int) (hx : numL (seen l f 2) = x) (hl : left l f 2 = l') (hf : falt l f 2 = f') :
    Calls Try.prog 23 #[.pointer (some ⟨r, 0, none⟩)] w fun e w' => e = .returned (.int .u16 x) ∧ Rdr w' r l' f' ∧ But r w w' := by
  subst hx; subst hl; subst hf; exact u16_any r l f w h
theorem built_rd (w : World) (l : List Int) (h : Byt l) (B : Nat) (hB : w.heap.size + 1 ≤ B) : Rd (w.alloc (.cells (bv l).toArray 5)) B (some ⟨w.heap.size, 0, none⟩) l.length l :=
  (Wh.new w l h).rd.more hB
theorem built2 (w : World) (l l' : List Int) (h : Byt l) (h' : Byt l') (B : Nat) (hB : w.heap.size + 2 ≤ B) :
    Rd ((w.alloc (.cells (bv l).toArray 5)).alloc (.cells (bv l').toArray 5)) B (some ⟨w.heap.size, 0, none⟩) l.length l ∧
    Rd ((w.alloc (.cells (bv l).toArray 5)).alloc (.cells (bv l').toArray 5)) B (some ⟨w.heap.size + 1, 0, none⟩) l'.length l' := by
  have h2 := built_rd (w.alloc (.cells (bv l).toArray 5)) l' h' B (by simp; omega)
  simp at h2
  exact ⟨((Wh.new w l h).alloc _).rd.more (by omega), by simpa using h2⟩
theorem addc (A A' : Option Addr) (n c m c' : Nat) (l l' : List Int) (w : World) (hr : Rd w w.heap.size A n l) (hr' : Rd w w.heap.size A' m l') (hn : n ≤ 1000000) (hm : m ≤ 1000000)
    (N : Nat) (L : List Int) (hN : max n m = N) (hL : addL l l' N = L) :
    Calls Try.prog 16 #[.slice A n c, .slice A' m c'] w fun e w' => e = .returned (.slice (some ⟨w.heap.size, 0, none⟩) N N) ∧ Wh w' w.heap.size L ∧ Below w.heap.size w w' := by
  subst hN; subst hL; exact add_any A A' n c m c' l l' w hr hr' hn hm
instance (l : List Int) : Decidable (Byt l) := inferInstanceAs (Decidable (∀ z ∈ l, 0 ≤ z ∧ z ≤ 255))

set_option maxHeartbeats 1000000 in
theorem wakes_any (w : World) : Calls Try.prog 10 #[] w fun e w' => e = .returned (.bool true) ∧ Below w.heap.size w w' := by
  go_enter Try.func10, Try.ntmps10
  go_wp2_with fail
  refine (read_any _ 4 4 [42, 1, 0, 5] _ (built_rd w [42, 1, 0, 5] (by decide) _ (by simp)) (by omega)).mono ?_
  rintro e w1 ⟨r, rfl, hr, h1, b1⟩
  go_wp2_with fail
  refine (u8_at r _ _ _ h1 42 [1, 0, 5] 0 (by decide) (by decide) (by decide)).mono ?_
  rintro e w2 ⟨rfl, h2, b2⟩
  go_wp2_with fail
  refine (u16_at r _ _ _ h2 1 [5] 0 (by decide) (by decide) (by decide)).mono ?_
  rintro e w3 ⟨rfl, h3, b3⟩
  go_wp2_with fail
  refine (u16_at r _ _ _ h3 0 [5] 7 (by decide) (by decide) (by decide)).mono ?_
  rintro e w4 ⟨rfl, h4, b4⟩
  go_wp2_with fail
  obtain ⟨q1, q2⟩ := built2 w4 [255, 0] [1] (by decide) (by decide) (w4.heap.size + 2) (Nat.le_refl _)
  refine (addc _ _ 2 2 1 1 [255, 0] [1] _ (q1.more (by simp)) (q2.more (by simp)) (by omega) (by omega) 2 [0, 1] (by decide) (by decide)).mono ?_
  rintro e w5 ⟨rfl, h5, b5⟩
  clear q1 q2
  have hB5 : Below w4.heap.size w4 w5 := (two_below w4 _ _).trans (b5.mono (by simp; omega))
  have h5r : Rdr w5 r [5] 7 := h4.below hB5 h4.lt
  have h5w : Wh w5 (w4.heap.size + 1 + 1) [0, 1] := by simpa using h5
  clear h5 b5
  go_wp2_with fail
  refine (err_any r _ _ _ h5r).mono ?_
  rintro e w' ⟨rfl, rfl⟩
  go_wp2_with fail
  refine (left_any r _ _ _ h5r).mono ?_
  rintro e w' ⟨rfl, rfl⟩
  go_wp2_with fail
  refine (put64_any _ 1 1 [7] 1 _ (built_rd w5 [7] (by decide) _ (by simp)) (by omega)).mono ?_
  rintro e w6 ⟨rfl, _, b6⟩
  have hB6 : Below w5.heap.size w5 w6 := ((Below.refl _ _).alloc (Nat.le_refl _) _).trans (b6.mono (by simp))
  have h6 : Wh w6 (w4.heap.size + 1 + 1) [0, 1] := h5w.below hB6 h5w.lt
  have c0 : w6.cell? ⟨w4.heap.size + 1 + 1, 0, none⟩ = some (.int .u8 0) := h6.cell (k := 0) (by decide)
  have c1 : w6.cell? ⟨w4.heap.size + 1 + 1, 1, none⟩ = some (.int .u8 1) := h6.cell (k := 1) (by decide)
  go_wp2
  go_ret
  have hr' : w.heap.size ≤ r := by simp at hr; omega
  have g1 : Below w.heap.size w w1 := ((Below.refl _ _).alloc (Nat.le_refl _) _).trans (b1.mono (by simp))
  have g2 := g1.trans (b2.below _ hr' g1.size)
  have g3 := g2.trans (b3.below _ hr' g2.size)
  have g4 := g3.trans (b4.below _ hr' g3.size)
  have g5 := g4.trans (hB5.mono g4.size)
  exact ⟨rfl, g5.trans (hB6.mono g5.size)⟩
end Go.Proofs.Ytabccpoolakfiaa
