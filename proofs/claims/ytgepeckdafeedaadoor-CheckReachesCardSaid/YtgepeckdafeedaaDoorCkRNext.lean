/-
  The reference's Next: what comes next of an instruction at a place.
-/
import Derived.Test.YtgepeckdafeedaaDoorCkNext
import Derived.Test.YtgepeckdafeedaaDoorCkRefA
import Derived.BigQuiet
set_option linter.unusedVariables false
namespace Go.Proofs.YtgepeckdafeedaaDoor
open Go.RowKit

/-- What Next hands back, in a block of its own. -/
def NextN (l : List Nat) (w : World) (e : Ending) (w' : World) : Prop := ∃ A c, e = .returned (.slice A l.length c) ∧ l.length ≤ c ∧ Rn w' w'.heap.size A l ∧ Below w.heap.size w w' ∧ ∀ b off, A = some ⟨b, off, none⟩ → w.heap.size ≤ b

set_option maxRecDepth 100000 in
set_option maxHeartbeats 1000000 in
theorem rnext_big (c a b k : Int) (i : Nat) (fm : Int) (w : World) (ho : InsOk c a b k)
    (hF : ∀ w, Calls Tryd.prog 33 #[.int .u16 c] w fun e w' => e = .returned (.int .i64 fm) ∧ Below w.heap.size w w') (hi : 255 < (i : Int)) :
    Calls Tryd.prog 26 #[.agg #[.int .u16 c, .int .u8 a, .int .u8 b, .int .u32 k], .int .i64 i] w (NextN [] w) := by
  obtain ⟨c0, c1, a0, a1, b0, b1, k0, k1⟩ := ho
  have hi0 : ¬ (i : Int) < 0 := by omega
  go_enter Tryd.func26, Tryd.ntmps26
  go_wp2_with fail
  have x0 : (w.alloc (.cells #[.int .u16 c, .int .u8 a, .int .u8 b, .int .u32 k] 42)).cell? ⟨w.heap.size, 0, none⟩ = some (Value.int .u16 c) := by simp
  have x1 : (w.alloc (.cells #[.int .u16 c, .int .u8 a, .int .u8 b, .int .u32 k] 42)).cell? ⟨w.heap.size, 1, none⟩ = some (Value.int .u8 a) := by simp
  have x2 : (w.alloc (.cells #[.int .u16 c, .int .u8 a, .int .u8 b, .int .u32 k] 42)).cell? ⟨w.heap.size, 2, none⟩ = some (Value.int .u8 b) := by simp
  have x3 : (w.alloc (.cells #[.int .u16 c, .int .u8 a, .int .u8 b, .int .u32 k] 42)).cell? ⟨w.heap.size, 3, none⟩ = some (Value.int .u32 k) := by simp
  have B1 := (Below.refl _ w).alloc (Nat.le_refl _) (.cells #[.int .u16 c, .int .u8 a, .int .u8 b, .int .u32 k] 42)
  obtain ⟨w1, hw1⟩ : ∃ w1, w.alloc (.cells #[.int .u16 c, .int .u8 a, .int .u8 b, .int .u32 k] 42) = w1 := ⟨_, rfl⟩
  rw [hw1] at x0 x1 x2 x3 B1 ⊢
  clear hw1
  refine (hF _).mono ?_
  rintro e w2 ⟨rfl, hb⟩
  replace x1 := (hb.cell (p := ⟨w.heap.size, 1, none⟩) (World.block_lt_of_cell? _ _ x1)).trans x1
  replace x2 := (hb.cell (p := ⟨w.heap.size, 2, none⟩) (World.block_lt_of_cell? _ _ x2)).trans x2
  replace x3 := (hb.cell (p := ⟨w.heap.size, 3, none⟩) (World.block_lt_of_cell? _ _ x3)).trans x3
  replace x0 := (hb.cell (p := ⟨w.heap.size, 0, none⟩) (World.block_lt_of_cell? _ _ x0)).trans x0
  replace B1 := B1.trans (hb.mono B1.size)
  clear hb
  go_wp2_with fail
  go_ret
  exact ⟨none, 0, rfl, Nat.le_refl _, Rn.nil, B1, fun b off h => by cases h⟩

set_option maxRecDepth 100000 in
set_option maxHeartbeats 1000000 in
theorem rnext_neg (c a b k : Int) (i : Nat) (fm : Int) (w : World) (ho : InsOk c a b k)
    (hF : ∀ w, Calls Tryd.prog 33 #[.int .u16 c] w fun e w' => e = .returned (.int .i64 fm) ∧ Below w.heap.size w w') (f : fm = -1) (hi : (i : Int) ≤ 255) :
    Calls Tryd.prog 26 #[.agg #[.int .u16 c, .int .u8 a, .int .u8 b, .int .u32 k], .int .i64 i] w (NextN [] w) := by
  obtain ⟨c0, c1, a0, a1, b0, b1, k0, k1⟩ := ho
  have hi0 : ¬ (i : Int) < 0 := by omega
  have hi1 : ¬ 255 < (i : Int) := by omega
  subst f
  go_enter Tryd.func26, Tryd.ntmps26
  go_wp2_with fail
  have x0 : (w.alloc (.cells #[.int .u16 c, .int .u8 a, .int .u8 b, .int .u32 k] 42)).cell? ⟨w.heap.size, 0, none⟩ = some (Value.int .u16 c) := by simp
  have x1 : (w.alloc (.cells #[.int .u16 c, .int .u8 a, .int .u8 b, .int .u32 k] 42)).cell? ⟨w.heap.size, 1, none⟩ = some (Value.int .u8 a) := by simp
  have x2 : (w.alloc (.cells #[.int .u16 c, .int .u8 a, .int .u8 b, .int .u32 k] 42)).cell? ⟨w.heap.size, 2, none⟩ = some (Value.int .u8 b) := by simp
  have x3 : (w.alloc (.cells #[.int .u16 c, .int .u8 a, .int .u8 b, .int .u32 k] 42)).cell? ⟨w.heap.size, 3, none⟩ = some (Value.int .u32 k) := by simp
  have B1 := (Below.refl _ w).alloc (Nat.le_refl _) (.cells #[.int .u16 c, .int .u8 a, .int .u8 b, .int .u32 k] 42)
  obtain ⟨w1, hw1⟩ : ∃ w1, w.alloc (.cells #[.int .u16 c, .int .u8 a, .int .u8 b, .int .u32 k] 42) = w1 := ⟨_, rfl⟩
  rw [hw1] at x0 x1 x2 x3 B1 ⊢
  clear hw1
  refine (hF _).mono ?_
  rintro e w2 ⟨rfl, hb⟩
  replace x1 := (hb.cell (p := ⟨w.heap.size, 1, none⟩) (World.block_lt_of_cell? _ _ x1)).trans x1
  replace x2 := (hb.cell (p := ⟨w.heap.size, 2, none⟩) (World.block_lt_of_cell? _ _ x2)).trans x2
  replace x3 := (hb.cell (p := ⟨w.heap.size, 3, none⟩) (World.block_lt_of_cell? _ _ x3)).trans x3
  replace x0 := (hb.cell (p := ⟨w.heap.size, 0, none⟩) (World.block_lt_of_cell? _ _ x0)).trans x0
  replace B1 := B1.trans (hb.mono B1.size)
  clear hb
  go_wp2_with fail
  go_ret
  exact ⟨none, 0, rfl, Nat.le_refl _, Rn.nil, B1, fun b off h => by cases h⟩

set_option maxRecDepth 100000 in
set_option maxHeartbeats 1000000 in
theorem rnext_ret (c a b k : Int) (i : Nat) (fm : Int) (w : World) (ho : InsOk c a b k)
    (hF : ∀ w, Calls Tryd.prog 33 #[.int .u16 c] w fun e w' => e = .returned (.int .i64 fm) ∧ Below w.heap.size w w') (hR : ∀ w, Calls Tryd.prog 23 #[.agg #[.int .u16 c, .int .u8 a, .int .u8 b, .int .u32 k]] w fun e w' => e = .returned (.bool true) ∧ Below w.heap.size w w') (f : 0 ≤ fm) (hi : (i : Int) ≤ 255) :
    Calls Tryd.prog 26 #[.agg #[.int .u16 c, .int .u8 a, .int .u8 b, .int .u32 k], .int .i64 i] w (NextN [] w) := by
  obtain ⟨c0, c1, a0, a1, b0, b1, k0, k1⟩ := ho
  have hi0 : ¬ (i : Int) < 0 := by omega
  have hi1 : ¬ 255 < (i : Int) := by omega
  have f' : ¬ fm < 0 := by omega
  go_enter Tryd.func26, Tryd.ntmps26
  go_wp2_with fail
  have x0 : (w.alloc (.cells #[.int .u16 c, .int .u8 a, .int .u8 b, .int .u32 k] 42)).cell? ⟨w.heap.size, 0, none⟩ = some (Value.int .u16 c) := by simp
  have x1 : (w.alloc (.cells #[.int .u16 c, .int .u8 a, .int .u8 b, .int .u32 k] 42)).cell? ⟨w.heap.size, 1, none⟩ = some (Value.int .u8 a) := by simp
  have x2 : (w.alloc (.cells #[.int .u16 c, .int .u8 a, .int .u8 b, .int .u32 k] 42)).cell? ⟨w.heap.size, 2, none⟩ = some (Value.int .u8 b) := by simp
  have x3 : (w.alloc (.cells #[.int .u16 c, .int .u8 a, .int .u8 b, .int .u32 k] 42)).cell? ⟨w.heap.size, 3, none⟩ = some (Value.int .u32 k) := by simp
  have B1 := (Below.refl _ w).alloc (Nat.le_refl _) (.cells #[.int .u16 c, .int .u8 a, .int .u8 b, .int .u32 k] 42)
  obtain ⟨w1, hw1⟩ : ∃ w1, w.alloc (.cells #[.int .u16 c, .int .u8 a, .int .u8 b, .int .u32 k] 42) = w1 := ⟨_, rfl⟩
  rw [hw1] at x0 x1 x2 x3 B1 ⊢
  clear hw1
  refine (hF _).mono ?_
  rintro e w2 ⟨rfl, hb⟩
  replace x1 := (hb.cell (p := ⟨w.heap.size, 1, none⟩) (World.block_lt_of_cell? _ _ x1)).trans x1
  replace x2 := (hb.cell (p := ⟨w.heap.size, 2, none⟩) (World.block_lt_of_cell? _ _ x2)).trans x2
  replace x3 := (hb.cell (p := ⟨w.heap.size, 3, none⟩) (World.block_lt_of_cell? _ _ x3)).trans x3
  replace x0 := (hb.cell (p := ⟨w.heap.size, 0, none⟩) (World.block_lt_of_cell? _ _ x0)).trans x0
  replace B1 := B1.trans (hb.mono B1.size)
  clear hb
  go_wp2_with fail
  refine (hR _).mono ?_
  rintro e w2 ⟨rfl, hb⟩
  replace x1 := (hb.cell (p := ⟨w.heap.size, 1, none⟩) (World.block_lt_of_cell? _ _ x1)).trans x1
  replace x2 := (hb.cell (p := ⟨w.heap.size, 2, none⟩) (World.block_lt_of_cell? _ _ x2)).trans x2
  replace x3 := (hb.cell (p := ⟨w.heap.size, 3, none⟩) (World.block_lt_of_cell? _ _ x3)).trans x3
  replace x0 := (hb.cell (p := ⟨w.heap.size, 0, none⟩) (World.block_lt_of_cell? _ _ x0)).trans x0
  replace B1 := B1.trans (hb.mono B1.size)
  clear hb
  go_wp2_with fail
  go_ret
  exact ⟨none, 0, rfl, Nat.le_refl _, Rn.nil, B1, fun b off h => by cases h⟩

set_option maxRecDepth 100000 in
set_option maxHeartbeats 1000000 in
theorem rnext_far (c a b k : Int) (i : Nat) (fm : Int) (w : World) (ho : InsOk c a b k)
    (hF : ∀ w, Calls Tryd.prog 33 #[.int .u16 c] w fun e w' => e = .returned (.int .i64 fm) ∧ Below w.heap.size w w') (hR : ∀ w, Calls Tryd.prog 23 #[.agg #[.int .u16 c, .int .u8 a, .int .u8 b, .int .u32 k]] w fun e w' => e = .returned (.bool false) ∧ Below w.heap.size w w') (f : fm = 4) (hi : (i : Int) ≤ 255) (h : 255 < k) :
    Calls Tryd.prog 26 #[.agg #[.int .u16 c, .int .u8 a, .int .u8 b, .int .u32 k], .int .i64 i] w (NextN [] w) := by
  obtain ⟨c0, c1, a0, a1, b0, b1, k0, k1⟩ := ho
  have hi0 : ¬ (i : Int) < 0 := by omega
  have hi1 : ¬ 255 < (i : Int) := by omega
  subst f
  go_enter Tryd.func26, Tryd.ntmps26
  go_wp2_with fail
  have x0 : (w.alloc (.cells #[.int .u16 c, .int .u8 a, .int .u8 b, .int .u32 k] 42)).cell? ⟨w.heap.size, 0, none⟩ = some (Value.int .u16 c) := by simp
  have x1 : (w.alloc (.cells #[.int .u16 c, .int .u8 a, .int .u8 b, .int .u32 k] 42)).cell? ⟨w.heap.size, 1, none⟩ = some (Value.int .u8 a) := by simp
  have x2 : (w.alloc (.cells #[.int .u16 c, .int .u8 a, .int .u8 b, .int .u32 k] 42)).cell? ⟨w.heap.size, 2, none⟩ = some (Value.int .u8 b) := by simp
  have x3 : (w.alloc (.cells #[.int .u16 c, .int .u8 a, .int .u8 b, .int .u32 k] 42)).cell? ⟨w.heap.size, 3, none⟩ = some (Value.int .u32 k) := by simp
  have B1 := (Below.refl _ w).alloc (Nat.le_refl _) (.cells #[.int .u16 c, .int .u8 a, .int .u8 b, .int .u32 k] 42)
  obtain ⟨w1, hw1⟩ : ∃ w1, w.alloc (.cells #[.int .u16 c, .int .u8 a, .int .u8 b, .int .u32 k] 42) = w1 := ⟨_, rfl⟩
  rw [hw1] at x0 x1 x2 x3 B1 ⊢
  clear hw1
  refine (hF _).mono ?_
  rintro e w2 ⟨rfl, hb⟩
  replace x1 := (hb.cell (p := ⟨w.heap.size, 1, none⟩) (World.block_lt_of_cell? _ _ x1)).trans x1
  replace x2 := (hb.cell (p := ⟨w.heap.size, 2, none⟩) (World.block_lt_of_cell? _ _ x2)).trans x2
  replace x3 := (hb.cell (p := ⟨w.heap.size, 3, none⟩) (World.block_lt_of_cell? _ _ x3)).trans x3
  replace x0 := (hb.cell (p := ⟨w.heap.size, 0, none⟩) (World.block_lt_of_cell? _ _ x0)).trans x0
  replace B1 := B1.trans (hb.mono B1.size)
  clear hb
  go_wp2_with fail
  refine (hR _).mono ?_
  rintro e w2 ⟨rfl, hb⟩
  replace x1 := (hb.cell (p := ⟨w.heap.size, 1, none⟩) (World.block_lt_of_cell? _ _ x1)).trans x1
  replace x2 := (hb.cell (p := ⟨w.heap.size, 2, none⟩) (World.block_lt_of_cell? _ _ x2)).trans x2
  replace x3 := (hb.cell (p := ⟨w.heap.size, 3, none⟩) (World.block_lt_of_cell? _ _ x3)).trans x3
  replace x0 := (hb.cell (p := ⟨w.heap.size, 0, none⟩) (World.block_lt_of_cell? _ _ x0)).trans x0
  replace B1 := B1.trans (hb.mono B1.size)
  clear hb
  go_wp2_with fail
  go_ret
  exact ⟨none, 0, rfl, Nat.le_refl _, Rn.nil, B1, fun b off h => by cases h⟩

set_option maxRecDepth 100000 in
set_option maxHeartbeats 1000000 in
theorem rnext_ja (c a b k : Int) (i : Nat) (fm : Int) (w : World) (ho : InsOk c a b k)
    (hF : ∀ w, Calls Tryd.prog 33 #[.int .u16 c] w fun e w' => e = .returned (.int .i64 fm) ∧ Below w.heap.size w w') (hR : ∀ w, Calls Tryd.prog 23 #[.agg #[.int .u16 c, .int .u8 a, .int .u8 b, .int .u32 k]] w fun e w' => e = .returned (.bool false) ∧ Below w.heap.size w w') (f : fm = 4) (hi : (i : Int) ≤ 255) (h : ¬ 255 < k) :
    Calls Tryd.prog 26 #[.agg #[.int .u16 c, .int .u8 a, .int .u8 b, .int .u32 k], .int .i64 i] w (NextN [i + 1 + k.toNat] w) := by
  obtain ⟨c0, c1, a0, a1, b0, b1, k0, k1⟩ := ho
  have hi0 : ¬ (i : Int) < 0 := by omega
  have hi1 : ¬ 255 < (i : Int) := by omega
  subst f
  go_enter Tryd.func26, Tryd.ntmps26
  go_wp2_with fail
  have x0 : (w.alloc (.cells #[.int .u16 c, .int .u8 a, .int .u8 b, .int .u32 k] 42)).cell? ⟨w.heap.size, 0, none⟩ = some (Value.int .u16 c) := by simp
  have x1 : (w.alloc (.cells #[.int .u16 c, .int .u8 a, .int .u8 b, .int .u32 k] 42)).cell? ⟨w.heap.size, 1, none⟩ = some (Value.int .u8 a) := by simp
  have x2 : (w.alloc (.cells #[.int .u16 c, .int .u8 a, .int .u8 b, .int .u32 k] 42)).cell? ⟨w.heap.size, 2, none⟩ = some (Value.int .u8 b) := by simp
  have x3 : (w.alloc (.cells #[.int .u16 c, .int .u8 a, .int .u8 b, .int .u32 k] 42)).cell? ⟨w.heap.size, 3, none⟩ = some (Value.int .u32 k) := by simp
  have B1 := (Below.refl _ w).alloc (Nat.le_refl _) (.cells #[.int .u16 c, .int .u8 a, .int .u8 b, .int .u32 k] 42)
  obtain ⟨w1, hw1⟩ : ∃ w1, w.alloc (.cells #[.int .u16 c, .int .u8 a, .int .u8 b, .int .u32 k] 42) = w1 := ⟨_, rfl⟩
  rw [hw1] at x0 x1 x2 x3 B1 ⊢
  clear hw1
  refine (hF _).mono ?_
  rintro e w2 ⟨rfl, hb⟩
  replace x1 := (hb.cell (p := ⟨w.heap.size, 1, none⟩) (World.block_lt_of_cell? _ _ x1)).trans x1
  replace x2 := (hb.cell (p := ⟨w.heap.size, 2, none⟩) (World.block_lt_of_cell? _ _ x2)).trans x2
  replace x3 := (hb.cell (p := ⟨w.heap.size, 3, none⟩) (World.block_lt_of_cell? _ _ x3)).trans x3
  replace x0 := (hb.cell (p := ⟨w.heap.size, 0, none⟩) (World.block_lt_of_cell? _ _ x0)).trans x0
  replace B1 := B1.trans (hb.mono B1.size)
  clear hb
  go_wp2_with fail
  refine (hR _).mono ?_
  rintro e w2 ⟨rfl, hb⟩
  replace x1 := (hb.cell (p := ⟨w.heap.size, 1, none⟩) (World.block_lt_of_cell? _ _ x1)).trans x1
  replace x2 := (hb.cell (p := ⟨w.heap.size, 2, none⟩) (World.block_lt_of_cell? _ _ x2)).trans x2
  replace x3 := (hb.cell (p := ⟨w.heap.size, 3, none⟩) (World.block_lt_of_cell? _ _ x3)).trans x3
  replace x0 := (hb.cell (p := ⟨w.heap.size, 0, none⟩) (World.block_lt_of_cell? _ _ x0)).trans x0
  replace B1 := B1.trans (hb.mono B1.size)
  clear hb
  go_wp2_with fail
  go_ret
  exact ⟨_, 1, rfl, Nat.le_refl _, by simpa using rn_one _ (i + 1 + k.toNat) _ (by omega), B1.alloc B1.size _, fun b off h => by cases h; exact B1.size⟩

set_option maxRecDepth 100000 in
set_option maxHeartbeats 1000000 in
theorem rnext_any (c a b k : Int) (i : Nat) (fm : Int) (w : World) (ho : InsOk c a b k)
    (hF : ∀ w, Calls Tryd.prog 33 #[.int .u16 c] w fun e w' => e = .returned (.int .i64 fm) ∧ Below w.heap.size w w') (hR : ∀ w, Calls Tryd.prog 23 #[.agg #[.int .u16 c, .int .u8 a, .int .u8 b, .int .u32 k]] w fun e w' => e = .returned (.bool false) ∧ Below w.heap.size w w') (f : 0 ≤ fm) (f4 : ¬ fm = 4) (f5 : ¬ fm = 5) (f6 : ¬ fm = 6) (hi : (i : Int) ≤ 255) :
    Calls Tryd.prog 26 #[.agg #[.int .u16 c, .int .u8 a, .int .u8 b, .int .u32 k], .int .i64 i] w (NextN [i + 1] w) := by
  obtain ⟨c0, c1, a0, a1, b0, b1, k0, k1⟩ := ho
  have hi0 : ¬ (i : Int) < 0 := by omega
  have hi1 : ¬ 255 < (i : Int) := by omega
  have f' : ¬ fm < 0 := by omega
  go_enter Tryd.func26, Tryd.ntmps26
  go_wp2_with fail
  have x0 : (w.alloc (.cells #[.int .u16 c, .int .u8 a, .int .u8 b, .int .u32 k] 42)).cell? ⟨w.heap.size, 0, none⟩ = some (Value.int .u16 c) := by simp
  have x1 : (w.alloc (.cells #[.int .u16 c, .int .u8 a, .int .u8 b, .int .u32 k] 42)).cell? ⟨w.heap.size, 1, none⟩ = some (Value.int .u8 a) := by simp
  have x2 : (w.alloc (.cells #[.int .u16 c, .int .u8 a, .int .u8 b, .int .u32 k] 42)).cell? ⟨w.heap.size, 2, none⟩ = some (Value.int .u8 b) := by simp
  have x3 : (w.alloc (.cells #[.int .u16 c, .int .u8 a, .int .u8 b, .int .u32 k] 42)).cell? ⟨w.heap.size, 3, none⟩ = some (Value.int .u32 k) := by simp
  have B1 := (Below.refl _ w).alloc (Nat.le_refl _) (.cells #[.int .u16 c, .int .u8 a, .int .u8 b, .int .u32 k] 42)
  obtain ⟨w1, hw1⟩ : ∃ w1, w.alloc (.cells #[.int .u16 c, .int .u8 a, .int .u8 b, .int .u32 k] 42) = w1 := ⟨_, rfl⟩
  rw [hw1] at x0 x1 x2 x3 B1 ⊢
  clear hw1
  refine (hF _).mono ?_
  rintro e w2 ⟨rfl, hb⟩
  replace x1 := (hb.cell (p := ⟨w.heap.size, 1, none⟩) (World.block_lt_of_cell? _ _ x1)).trans x1
  replace x2 := (hb.cell (p := ⟨w.heap.size, 2, none⟩) (World.block_lt_of_cell? _ _ x2)).trans x2
  replace x3 := (hb.cell (p := ⟨w.heap.size, 3, none⟩) (World.block_lt_of_cell? _ _ x3)).trans x3
  replace x0 := (hb.cell (p := ⟨w.heap.size, 0, none⟩) (World.block_lt_of_cell? _ _ x0)).trans x0
  replace B1 := B1.trans (hb.mono B1.size)
  clear hb
  go_wp2_with fail
  refine (hR _).mono ?_
  rintro e w2 ⟨rfl, hb⟩
  replace x1 := (hb.cell (p := ⟨w.heap.size, 1, none⟩) (World.block_lt_of_cell? _ _ x1)).trans x1
  replace x2 := (hb.cell (p := ⟨w.heap.size, 2, none⟩) (World.block_lt_of_cell? _ _ x2)).trans x2
  replace x3 := (hb.cell (p := ⟨w.heap.size, 3, none⟩) (World.block_lt_of_cell? _ _ x3)).trans x3
  replace x0 := (hb.cell (p := ⟨w.heap.size, 0, none⟩) (World.block_lt_of_cell? _ _ x0)).trans x0
  replace B1 := B1.trans (hb.mono B1.size)
  clear hb
  go_wp2_with fail
  go_ret
  exact ⟨_, 1, rfl, Nat.le_refl _, by simpa using rn_one _ (i + 1) _ (by omega), B1.alloc B1.size _, fun b off h => by cases h; exact B1.size⟩

set_option maxRecDepth 100000 in
set_option maxHeartbeats 1000000 in
theorem rnext_lt5 (c a b k : Int) (i : Nat) (fm : Int) (w : World) (ho : InsOk c a b k)
    (hF : ∀ w, Calls Tryd.prog 33 #[.int .u16 c] w fun e w' => e = .returned (.int .i64 fm) ∧ Below w.heap.size w w') (hR : ∀ w, Calls Tryd.prog 23 #[.agg #[.int .u16 c, .int .u8 a, .int .u8 b, .int .u32 k]] w fun e w' => e = .returned (.bool false) ∧ Below w.heap.size w w') (f : fm = 5) (hi : (i : Int) ≤ 255) (h : a < b) :
    Calls Tryd.prog 26 #[.agg #[.int .u16 c, .int .u8 a, .int .u8 b, .int .u32 k], .int .i64 i] w (NextN [i + 1 + a.toNat, i + 1 + b.toNat] w) := by
  obtain ⟨c0, c1, a0, a1, b0, b1, k0, k1⟩ := ho
  have hi0 : ¬ (i : Int) < 0 := by omega
  have hi1 : ¬ 255 < (i : Int) := by omega
  subst f
  have h1 : ¬ (i : Int) + 1 + a = (i : Int) + 1 + b := by omega
  have h2 : min ((i : Int) + 1 + a) ((i : Int) + 1 + b) = (i : Int) + 1 + a := by omega
  have h3 : max ((i : Int) + 1 + a) ((i : Int) + 1 + b) = (i : Int) + 1 + b := by omega
  have h4 : ¬ a = b := by omega
  go_enter Tryd.func26, Tryd.ntmps26
  go_wp2_with fail
  have x0 : (w.alloc (.cells #[.int .u16 c, .int .u8 a, .int .u8 b, .int .u32 k] 42)).cell? ⟨w.heap.size, 0, none⟩ = some (Value.int .u16 c) := by simp
  have x1 : (w.alloc (.cells #[.int .u16 c, .int .u8 a, .int .u8 b, .int .u32 k] 42)).cell? ⟨w.heap.size, 1, none⟩ = some (Value.int .u8 a) := by simp
  have x2 : (w.alloc (.cells #[.int .u16 c, .int .u8 a, .int .u8 b, .int .u32 k] 42)).cell? ⟨w.heap.size, 2, none⟩ = some (Value.int .u8 b) := by simp
  have x3 : (w.alloc (.cells #[.int .u16 c, .int .u8 a, .int .u8 b, .int .u32 k] 42)).cell? ⟨w.heap.size, 3, none⟩ = some (Value.int .u32 k) := by simp
  have B1 := (Below.refl _ w).alloc (Nat.le_refl _) (.cells #[.int .u16 c, .int .u8 a, .int .u8 b, .int .u32 k] 42)
  obtain ⟨w1, hw1⟩ : ∃ w1, w.alloc (.cells #[.int .u16 c, .int .u8 a, .int .u8 b, .int .u32 k] 42) = w1 := ⟨_, rfl⟩
  rw [hw1] at x0 x1 x2 x3 B1 ⊢
  clear hw1
  refine (hF _).mono ?_
  rintro e w2 ⟨rfl, hb⟩
  replace x1 := (hb.cell (p := ⟨w.heap.size, 1, none⟩) (World.block_lt_of_cell? _ _ x1)).trans x1
  replace x2 := (hb.cell (p := ⟨w.heap.size, 2, none⟩) (World.block_lt_of_cell? _ _ x2)).trans x2
  replace x3 := (hb.cell (p := ⟨w.heap.size, 3, none⟩) (World.block_lt_of_cell? _ _ x3)).trans x3
  replace x0 := (hb.cell (p := ⟨w.heap.size, 0, none⟩) (World.block_lt_of_cell? _ _ x0)).trans x0
  replace B1 := B1.trans (hb.mono B1.size)
  clear hb
  go_wp2_with fail
  refine (hR _).mono ?_
  rintro e w2 ⟨rfl, hb⟩
  replace x1 := (hb.cell (p := ⟨w.heap.size, 1, none⟩) (World.block_lt_of_cell? _ _ x1)).trans x1
  replace x2 := (hb.cell (p := ⟨w.heap.size, 2, none⟩) (World.block_lt_of_cell? _ _ x2)).trans x2
  replace x3 := (hb.cell (p := ⟨w.heap.size, 3, none⟩) (World.block_lt_of_cell? _ _ x3)).trans x3
  replace x0 := (hb.cell (p := ⟨w.heap.size, 0, none⟩) (World.block_lt_of_cell? _ _ x0)).trans x0
  replace B1 := B1.trans (hb.mono B1.size)
  clear hb
  go_wp2_with fail
  go_quiet (fail)
  go_wp2_with fail
  go_ret
  exact ⟨_, 2, rfl, Nat.le_refl _, by rw [World.size_alloc]; exact rn_two _ (i + 1 + a.toNat) (i + 1 + b.toNat) _ _ (by omega) (by omega), (below_drewN B1 nq).alloc B1.size _, fun b off h => by cases h; exact B1.size⟩

set_option maxRecDepth 100000 in
set_option maxHeartbeats 1000000 in
theorem rnext_gt5 (c a b k : Int) (i : Nat) (fm : Int) (w : World) (ho : InsOk c a b k)
    (hF : ∀ w, Calls Tryd.prog 33 #[.int .u16 c] w fun e w' => e = .returned (.int .i64 fm) ∧ Below w.heap.size w w') (hR : ∀ w, Calls Tryd.prog 23 #[.agg #[.int .u16 c, .int .u8 a, .int .u8 b, .int .u32 k]] w fun e w' => e = .returned (.bool false) ∧ Below w.heap.size w w') (f : fm = 5) (hi : (i : Int) ≤ 255) (h : b < a) :
    Calls Tryd.prog 26 #[.agg #[.int .u16 c, .int .u8 a, .int .u8 b, .int .u32 k], .int .i64 i] w (NextN [i + 1 + b.toNat, i + 1 + a.toNat] w) := by
  obtain ⟨c0, c1, a0, a1, b0, b1, k0, k1⟩ := ho
  have hi0 : ¬ (i : Int) < 0 := by omega
  have hi1 : ¬ 255 < (i : Int) := by omega
  subst f
  have h1 : ¬ (i : Int) + 1 + a = (i : Int) + 1 + b := by omega
  have h2 : min ((i : Int) + 1 + a) ((i : Int) + 1 + b) = (i : Int) + 1 + b := by omega
  have h3 : max ((i : Int) + 1 + a) ((i : Int) + 1 + b) = (i : Int) + 1 + a := by omega
  have h4 : ¬ a = b := by omega
  go_enter Tryd.func26, Tryd.ntmps26
  go_wp2_with fail
  have x0 : (w.alloc (.cells #[.int .u16 c, .int .u8 a, .int .u8 b, .int .u32 k] 42)).cell? ⟨w.heap.size, 0, none⟩ = some (Value.int .u16 c) := by simp
  have x1 : (w.alloc (.cells #[.int .u16 c, .int .u8 a, .int .u8 b, .int .u32 k] 42)).cell? ⟨w.heap.size, 1, none⟩ = some (Value.int .u8 a) := by simp
  have x2 : (w.alloc (.cells #[.int .u16 c, .int .u8 a, .int .u8 b, .int .u32 k] 42)).cell? ⟨w.heap.size, 2, none⟩ = some (Value.int .u8 b) := by simp
  have x3 : (w.alloc (.cells #[.int .u16 c, .int .u8 a, .int .u8 b, .int .u32 k] 42)).cell? ⟨w.heap.size, 3, none⟩ = some (Value.int .u32 k) := by simp
  have B1 := (Below.refl _ w).alloc (Nat.le_refl _) (.cells #[.int .u16 c, .int .u8 a, .int .u8 b, .int .u32 k] 42)
  obtain ⟨w1, hw1⟩ : ∃ w1, w.alloc (.cells #[.int .u16 c, .int .u8 a, .int .u8 b, .int .u32 k] 42) = w1 := ⟨_, rfl⟩
  rw [hw1] at x0 x1 x2 x3 B1 ⊢
  clear hw1
  refine (hF _).mono ?_
  rintro e w2 ⟨rfl, hb⟩
  replace x1 := (hb.cell (p := ⟨w.heap.size, 1, none⟩) (World.block_lt_of_cell? _ _ x1)).trans x1
  replace x2 := (hb.cell (p := ⟨w.heap.size, 2, none⟩) (World.block_lt_of_cell? _ _ x2)).trans x2
  replace x3 := (hb.cell (p := ⟨w.heap.size, 3, none⟩) (World.block_lt_of_cell? _ _ x3)).trans x3
  replace x0 := (hb.cell (p := ⟨w.heap.size, 0, none⟩) (World.block_lt_of_cell? _ _ x0)).trans x0
  replace B1 := B1.trans (hb.mono B1.size)
  clear hb
  go_wp2_with fail
  refine (hR _).mono ?_
  rintro e w2 ⟨rfl, hb⟩
  replace x1 := (hb.cell (p := ⟨w.heap.size, 1, none⟩) (World.block_lt_of_cell? _ _ x1)).trans x1
  replace x2 := (hb.cell (p := ⟨w.heap.size, 2, none⟩) (World.block_lt_of_cell? _ _ x2)).trans x2
  replace x3 := (hb.cell (p := ⟨w.heap.size, 3, none⟩) (World.block_lt_of_cell? _ _ x3)).trans x3
  replace x0 := (hb.cell (p := ⟨w.heap.size, 0, none⟩) (World.block_lt_of_cell? _ _ x0)).trans x0
  replace B1 := B1.trans (hb.mono B1.size)
  clear hb
  go_wp2_with fail
  go_quiet (fail)
  go_wp2_with fail
  go_ret
  exact ⟨_, 2, rfl, Nat.le_refl _, by rw [World.size_alloc]; exact rn_two _ (i + 1 + b.toNat) (i + 1 + a.toNat) _ _ (by omega) (by omega), (below_drewN B1 nq).alloc B1.size _, fun b off h => by cases h; exact B1.size⟩

set_option maxRecDepth 100000 in
set_option maxHeartbeats 1000000 in
theorem rnext_eq5 (c a b k : Int) (i : Nat) (fm : Int) (w : World) (ho : InsOk c a b k)
    (hF : ∀ w, Calls Tryd.prog 33 #[.int .u16 c] w fun e w' => e = .returned (.int .i64 fm) ∧ Below w.heap.size w w') (hR : ∀ w, Calls Tryd.prog 23 #[.agg #[.int .u16 c, .int .u8 a, .int .u8 a, .int .u32 k]] w fun e w' => e = .returned (.bool false) ∧ Below w.heap.size w w') (f : fm = 5) (hi : (i : Int) ≤ 255) :
    Calls Tryd.prog 26 #[.agg #[.int .u16 c, .int .u8 a, .int .u8 a, .int .u32 k], .int .i64 i] w (NextN [i + 1 + a.toNat] w) := by
  obtain ⟨c0, c1, a0, a1, b0, b1, k0, k1⟩ := ho
  have hi0 : ¬ (i : Int) < 0 := by omega
  have hi1 : ¬ 255 < (i : Int) := by omega
  subst f
  go_enter Tryd.func26, Tryd.ntmps26
  go_wp2_with fail
  have x0 : (w.alloc (.cells #[.int .u16 c, .int .u8 a, .int .u8 a, .int .u32 k] 42)).cell? ⟨w.heap.size, 0, none⟩ = some (Value.int .u16 c) := by simp
  have x1 : (w.alloc (.cells #[.int .u16 c, .int .u8 a, .int .u8 a, .int .u32 k] 42)).cell? ⟨w.heap.size, 1, none⟩ = some (Value.int .u8 a) := by simp
  have x2 : (w.alloc (.cells #[.int .u16 c, .int .u8 a, .int .u8 a, .int .u32 k] 42)).cell? ⟨w.heap.size, 2, none⟩ = some (Value.int .u8 a) := by simp
  have x3 : (w.alloc (.cells #[.int .u16 c, .int .u8 a, .int .u8 a, .int .u32 k] 42)).cell? ⟨w.heap.size, 3, none⟩ = some (Value.int .u32 k) := by simp
  have B1 := (Below.refl _ w).alloc (Nat.le_refl _) (.cells #[.int .u16 c, .int .u8 a, .int .u8 a, .int .u32 k] 42)
  obtain ⟨w1, hw1⟩ : ∃ w1, w.alloc (.cells #[.int .u16 c, .int .u8 a, .int .u8 a, .int .u32 k] 42) = w1 := ⟨_, rfl⟩
  rw [hw1] at x0 x1 x2 x3 B1 ⊢
  clear hw1
  refine (hF _).mono ?_
  rintro e w2 ⟨rfl, hb⟩
  replace x1 := (hb.cell (p := ⟨w.heap.size, 1, none⟩) (World.block_lt_of_cell? _ _ x1)).trans x1
  replace x2 := (hb.cell (p := ⟨w.heap.size, 2, none⟩) (World.block_lt_of_cell? _ _ x2)).trans x2
  replace x3 := (hb.cell (p := ⟨w.heap.size, 3, none⟩) (World.block_lt_of_cell? _ _ x3)).trans x3
  replace x0 := (hb.cell (p := ⟨w.heap.size, 0, none⟩) (World.block_lt_of_cell? _ _ x0)).trans x0
  replace B1 := B1.trans (hb.mono B1.size)
  clear hb
  go_wp2_with fail
  refine (hR _).mono ?_
  rintro e w2 ⟨rfl, hb⟩
  replace x1 := (hb.cell (p := ⟨w.heap.size, 1, none⟩) (World.block_lt_of_cell? _ _ x1)).trans x1
  replace x2 := (hb.cell (p := ⟨w.heap.size, 2, none⟩) (World.block_lt_of_cell? _ _ x2)).trans x2
  replace x3 := (hb.cell (p := ⟨w.heap.size, 3, none⟩) (World.block_lt_of_cell? _ _ x3)).trans x3
  replace x0 := (hb.cell (p := ⟨w.heap.size, 0, none⟩) (World.block_lt_of_cell? _ _ x0)).trans x0
  replace B1 := B1.trans (hb.mono B1.size)
  clear hb
  go_wp2_with fail
  go_quiet (fail)
  go_wp2_with fail
  go_ret
  exact ⟨_, 1, rfl, Nat.le_refl _, by rw [World.size_alloc]; exact rn_one _ (i + 1 + a.toNat) _ (by omega), (below_drewN B1 nq).alloc B1.size _, fun b off h => by cases h; exact B1.size⟩

set_option maxRecDepth 100000 in
set_option maxHeartbeats 1000000 in
theorem rnext_lt6 (c a b k : Int) (i : Nat) (fm : Int) (w : World) (ho : InsOk c a b k)
    (hF : ∀ w, Calls Tryd.prog 33 #[.int .u16 c] w fun e w' => e = .returned (.int .i64 fm) ∧ Below w.heap.size w w') (hR : ∀ w, Calls Tryd.prog 23 #[.agg #[.int .u16 c, .int .u8 a, .int .u8 b, .int .u32 k]] w fun e w' => e = .returned (.bool false) ∧ Below w.heap.size w w') (f : fm = 6) (hi : (i : Int) ≤ 255) (h : a < b) :
    Calls Tryd.prog 26 #[.agg #[.int .u16 c, .int .u8 a, .int .u8 b, .int .u32 k], .int .i64 i] w (NextN [i + 1 + a.toNat, i + 1 + b.toNat] w) := by
  obtain ⟨c0, c1, a0, a1, b0, b1, k0, k1⟩ := ho
  have hi0 : ¬ (i : Int) < 0 := by omega
  have hi1 : ¬ 255 < (i : Int) := by omega
  subst f
  have h1 : ¬ (i : Int) + 1 + a = (i : Int) + 1 + b := by omega
  have h2 : min ((i : Int) + 1 + a) ((i : Int) + 1 + b) = (i : Int) + 1 + a := by omega
  have h3 : max ((i : Int) + 1 + a) ((i : Int) + 1 + b) = (i : Int) + 1 + b := by omega
  have h4 : ¬ a = b := by omega
  go_enter Tryd.func26, Tryd.ntmps26
  go_wp2_with fail
  have x0 : (w.alloc (.cells #[.int .u16 c, .int .u8 a, .int .u8 b, .int .u32 k] 42)).cell? ⟨w.heap.size, 0, none⟩ = some (Value.int .u16 c) := by simp
  have x1 : (w.alloc (.cells #[.int .u16 c, .int .u8 a, .int .u8 b, .int .u32 k] 42)).cell? ⟨w.heap.size, 1, none⟩ = some (Value.int .u8 a) := by simp
  have x2 : (w.alloc (.cells #[.int .u16 c, .int .u8 a, .int .u8 b, .int .u32 k] 42)).cell? ⟨w.heap.size, 2, none⟩ = some (Value.int .u8 b) := by simp
  have x3 : (w.alloc (.cells #[.int .u16 c, .int .u8 a, .int .u8 b, .int .u32 k] 42)).cell? ⟨w.heap.size, 3, none⟩ = some (Value.int .u32 k) := by simp
  have B1 := (Below.refl _ w).alloc (Nat.le_refl _) (.cells #[.int .u16 c, .int .u8 a, .int .u8 b, .int .u32 k] 42)
  obtain ⟨w1, hw1⟩ : ∃ w1, w.alloc (.cells #[.int .u16 c, .int .u8 a, .int .u8 b, .int .u32 k] 42) = w1 := ⟨_, rfl⟩
  rw [hw1] at x0 x1 x2 x3 B1 ⊢
  clear hw1
  refine (hF _).mono ?_
  rintro e w2 ⟨rfl, hb⟩
  replace x1 := (hb.cell (p := ⟨w.heap.size, 1, none⟩) (World.block_lt_of_cell? _ _ x1)).trans x1
  replace x2 := (hb.cell (p := ⟨w.heap.size, 2, none⟩) (World.block_lt_of_cell? _ _ x2)).trans x2
  replace x3 := (hb.cell (p := ⟨w.heap.size, 3, none⟩) (World.block_lt_of_cell? _ _ x3)).trans x3
  replace x0 := (hb.cell (p := ⟨w.heap.size, 0, none⟩) (World.block_lt_of_cell? _ _ x0)).trans x0
  replace B1 := B1.trans (hb.mono B1.size)
  clear hb
  go_wp2_with fail
  refine (hR _).mono ?_
  rintro e w2 ⟨rfl, hb⟩
  replace x1 := (hb.cell (p := ⟨w.heap.size, 1, none⟩) (World.block_lt_of_cell? _ _ x1)).trans x1
  replace x2 := (hb.cell (p := ⟨w.heap.size, 2, none⟩) (World.block_lt_of_cell? _ _ x2)).trans x2
  replace x3 := (hb.cell (p := ⟨w.heap.size, 3, none⟩) (World.block_lt_of_cell? _ _ x3)).trans x3
  replace x0 := (hb.cell (p := ⟨w.heap.size, 0, none⟩) (World.block_lt_of_cell? _ _ x0)).trans x0
  replace B1 := B1.trans (hb.mono B1.size)
  clear hb
  go_wp2_with fail
  go_quiet (fail)
  go_wp2_with fail
  go_ret
  exact ⟨_, 2, rfl, Nat.le_refl _, by rw [World.size_alloc]; exact rn_two _ (i + 1 + a.toNat) (i + 1 + b.toNat) _ _ (by omega) (by omega), (below_drewN B1 nq).alloc B1.size _, fun b off h => by cases h; exact B1.size⟩

set_option maxRecDepth 100000 in
set_option maxHeartbeats 1000000 in
theorem rnext_gt6 (c a b k : Int) (i : Nat) (fm : Int) (w : World) (ho : InsOk c a b k)
    (hF : ∀ w, Calls Tryd.prog 33 #[.int .u16 c] w fun e w' => e = .returned (.int .i64 fm) ∧ Below w.heap.size w w') (hR : ∀ w, Calls Tryd.prog 23 #[.agg #[.int .u16 c, .int .u8 a, .int .u8 b, .int .u32 k]] w fun e w' => e = .returned (.bool false) ∧ Below w.heap.size w w') (f : fm = 6) (hi : (i : Int) ≤ 255) (h : b < a) :
    Calls Tryd.prog 26 #[.agg #[.int .u16 c, .int .u8 a, .int .u8 b, .int .u32 k], .int .i64 i] w (NextN [i + 1 + b.toNat, i + 1 + a.toNat] w) := by
  obtain ⟨c0, c1, a0, a1, b0, b1, k0, k1⟩ := ho
  have hi0 : ¬ (i : Int) < 0 := by omega
  have hi1 : ¬ 255 < (i : Int) := by omega
  subst f
  have h1 : ¬ (i : Int) + 1 + a = (i : Int) + 1 + b := by omega
  have h2 : min ((i : Int) + 1 + a) ((i : Int) + 1 + b) = (i : Int) + 1 + b := by omega
  have h3 : max ((i : Int) + 1 + a) ((i : Int) + 1 + b) = (i : Int) + 1 + a := by omega
  have h4 : ¬ a = b := by omega
  go_enter Tryd.func26, Tryd.ntmps26
  go_wp2_with fail
  have x0 : (w.alloc (.cells #[.int .u16 c, .int .u8 a, .int .u8 b, .int .u32 k] 42)).cell? ⟨w.heap.size, 0, none⟩ = some (Value.int .u16 c) := by simp
  have x1 : (w.alloc (.cells #[.int .u16 c, .int .u8 a, .int .u8 b, .int .u32 k] 42)).cell? ⟨w.heap.size, 1, none⟩ = some (Value.int .u8 a) := by simp
  have x2 : (w.alloc (.cells #[.int .u16 c, .int .u8 a, .int .u8 b, .int .u32 k] 42)).cell? ⟨w.heap.size, 2, none⟩ = some (Value.int .u8 b) := by simp
  have x3 : (w.alloc (.cells #[.int .u16 c, .int .u8 a, .int .u8 b, .int .u32 k] 42)).cell? ⟨w.heap.size, 3, none⟩ = some (Value.int .u32 k) := by simp
  have B1 := (Below.refl _ w).alloc (Nat.le_refl _) (.cells #[.int .u16 c, .int .u8 a, .int .u8 b, .int .u32 k] 42)
  obtain ⟨w1, hw1⟩ : ∃ w1, w.alloc (.cells #[.int .u16 c, .int .u8 a, .int .u8 b, .int .u32 k] 42) = w1 := ⟨_, rfl⟩
  rw [hw1] at x0 x1 x2 x3 B1 ⊢
  clear hw1
  refine (hF _).mono ?_
  rintro e w2 ⟨rfl, hb⟩
  replace x1 := (hb.cell (p := ⟨w.heap.size, 1, none⟩) (World.block_lt_of_cell? _ _ x1)).trans x1
  replace x2 := (hb.cell (p := ⟨w.heap.size, 2, none⟩) (World.block_lt_of_cell? _ _ x2)).trans x2
  replace x3 := (hb.cell (p := ⟨w.heap.size, 3, none⟩) (World.block_lt_of_cell? _ _ x3)).trans x3
  replace x0 := (hb.cell (p := ⟨w.heap.size, 0, none⟩) (World.block_lt_of_cell? _ _ x0)).trans x0
  replace B1 := B1.trans (hb.mono B1.size)
  clear hb
  go_wp2_with fail
  refine (hR _).mono ?_
  rintro e w2 ⟨rfl, hb⟩
  replace x1 := (hb.cell (p := ⟨w.heap.size, 1, none⟩) (World.block_lt_of_cell? _ _ x1)).trans x1
  replace x2 := (hb.cell (p := ⟨w.heap.size, 2, none⟩) (World.block_lt_of_cell? _ _ x2)).trans x2
  replace x3 := (hb.cell (p := ⟨w.heap.size, 3, none⟩) (World.block_lt_of_cell? _ _ x3)).trans x3
  replace x0 := (hb.cell (p := ⟨w.heap.size, 0, none⟩) (World.block_lt_of_cell? _ _ x0)).trans x0
  replace B1 := B1.trans (hb.mono B1.size)
  clear hb
  go_wp2_with fail
  go_quiet (fail)
  go_wp2_with fail
  go_ret
  exact ⟨_, 2, rfl, Nat.le_refl _, by rw [World.size_alloc]; exact rn_two _ (i + 1 + b.toNat) (i + 1 + a.toNat) _ _ (by omega) (by omega), (below_drewN B1 nq).alloc B1.size _, fun b off h => by cases h; exact B1.size⟩

set_option maxRecDepth 100000 in
set_option maxHeartbeats 1000000 in
theorem rnext_eq6 (c a b k : Int) (i : Nat) (fm : Int) (w : World) (ho : InsOk c a b k)
    (hF : ∀ w, Calls Tryd.prog 33 #[.int .u16 c] w fun e w' => e = .returned (.int .i64 fm) ∧ Below w.heap.size w w') (hR : ∀ w, Calls Tryd.prog 23 #[.agg #[.int .u16 c, .int .u8 a, .int .u8 a, .int .u32 k]] w fun e w' => e = .returned (.bool false) ∧ Below w.heap.size w w') (f : fm = 6) (hi : (i : Int) ≤ 255) :
    Calls Tryd.prog 26 #[.agg #[.int .u16 c, .int .u8 a, .int .u8 a, .int .u32 k], .int .i64 i] w (NextN [i + 1 + a.toNat] w) := by
  obtain ⟨c0, c1, a0, a1, b0, b1, k0, k1⟩ := ho
  have hi0 : ¬ (i : Int) < 0 := by omega
  have hi1 : ¬ 255 < (i : Int) := by omega
  subst f
  go_enter Tryd.func26, Tryd.ntmps26
  go_wp2_with fail
  have x0 : (w.alloc (.cells #[.int .u16 c, .int .u8 a, .int .u8 a, .int .u32 k] 42)).cell? ⟨w.heap.size, 0, none⟩ = some (Value.int .u16 c) := by simp
  have x1 : (w.alloc (.cells #[.int .u16 c, .int .u8 a, .int .u8 a, .int .u32 k] 42)).cell? ⟨w.heap.size, 1, none⟩ = some (Value.int .u8 a) := by simp
  have x2 : (w.alloc (.cells #[.int .u16 c, .int .u8 a, .int .u8 a, .int .u32 k] 42)).cell? ⟨w.heap.size, 2, none⟩ = some (Value.int .u8 a) := by simp
  have x3 : (w.alloc (.cells #[.int .u16 c, .int .u8 a, .int .u8 a, .int .u32 k] 42)).cell? ⟨w.heap.size, 3, none⟩ = some (Value.int .u32 k) := by simp
  have B1 := (Below.refl _ w).alloc (Nat.le_refl _) (.cells #[.int .u16 c, .int .u8 a, .int .u8 a, .int .u32 k] 42)
  obtain ⟨w1, hw1⟩ : ∃ w1, w.alloc (.cells #[.int .u16 c, .int .u8 a, .int .u8 a, .int .u32 k] 42) = w1 := ⟨_, rfl⟩
  rw [hw1] at x0 x1 x2 x3 B1 ⊢
  clear hw1
  refine (hF _).mono ?_
  rintro e w2 ⟨rfl, hb⟩
  replace x1 := (hb.cell (p := ⟨w.heap.size, 1, none⟩) (World.block_lt_of_cell? _ _ x1)).trans x1
  replace x2 := (hb.cell (p := ⟨w.heap.size, 2, none⟩) (World.block_lt_of_cell? _ _ x2)).trans x2
  replace x3 := (hb.cell (p := ⟨w.heap.size, 3, none⟩) (World.block_lt_of_cell? _ _ x3)).trans x3
  replace x0 := (hb.cell (p := ⟨w.heap.size, 0, none⟩) (World.block_lt_of_cell? _ _ x0)).trans x0
  replace B1 := B1.trans (hb.mono B1.size)
  clear hb
  go_wp2_with fail
  refine (hR _).mono ?_
  rintro e w2 ⟨rfl, hb⟩
  replace x1 := (hb.cell (p := ⟨w.heap.size, 1, none⟩) (World.block_lt_of_cell? _ _ x1)).trans x1
  replace x2 := (hb.cell (p := ⟨w.heap.size, 2, none⟩) (World.block_lt_of_cell? _ _ x2)).trans x2
  replace x3 := (hb.cell (p := ⟨w.heap.size, 3, none⟩) (World.block_lt_of_cell? _ _ x3)).trans x3
  replace x0 := (hb.cell (p := ⟨w.heap.size, 0, none⟩) (World.block_lt_of_cell? _ _ x0)).trans x0
  replace B1 := B1.trans (hb.mono B1.size)
  clear hb
  go_wp2_with fail
  go_quiet (fail)
  go_wp2_with fail
  go_ret
  exact ⟨_, 1, rfl, Nat.le_refl _, by rw [World.size_alloc]; exact rn_one _ (i + 1 + a.toNat) _ (by omega), (below_drewN B1 nq).alloc B1.size _, fun b off h => by cases h; exact B1.size⟩

theorem rnext_new (q : Ins) (i : Nat) (w : World) (ho : insO q) : Calls Tryd.prog 26 #[valI q, .int .i64 i] w (NextN (nextL q i) w) := by
  obtain ⟨c, a, b, k⟩ := q
  have ho' : InsOk c a b k := ho
  have hF : ∀ fm, formOf c = fm → ∀ w, Calls Tryd.prog 33 #[.int .u16 c] w fun e w' => e = .returned (.int .i64 fm) ∧ Below w.heap.size w w' := fun fm h w => by rw [← h]; exact refform_any c w ho'.c0
  have hR : ∀ bo : Bool, retI (c, a, b, k) = bo → ∀ w, Calls Tryd.prog 23 #[.agg #[.int .u16 c, .int .u8 a, .int .u8 b, .int .u32 k]] w fun e w' => e = .returned (.bool bo) ∧ Below w.heap.size w w' := fun bo h w => by rw [← h]; exact refret_any (c, a, b, k) w
  show Calls Tryd.prog 26 #[.agg #[.int .u16 c, .int .u8 a, .int .u8 b, .int .u32 k], .int .i64 i] w (NextN (nextL (c, a, b, k) i) w)
  unfold nextL
  simp only
  by_cases hi : 255 < i
  · rw [if_pos (.inl hi)]
    exact rnext_big c a b k i _ w ho' (hF _ rfl) (by omega)
  · have hi' : (i : Int) ≤ 255 := by omega
    by_cases hn : formOf c = -1
    · rw [if_pos (.inr (.inl hn))]
      exact rnext_neg c a b k i (-1) w ho' (hF _ hn) rfl hi'
    · have h0 : 0 ≤ formOf c := by have := form_cases c; omega
      by_cases hr : retI (c, a, b, k) = true
      · rw [if_pos (.inr (.inr (.inl hr)))]
        exact rnext_ret c a b k i _ w ho' (hF _ rfl) (hR true hr) h0 hi'
      · have hr' : retI (c, a, b, k) = false := by simpa using hr
        by_cases h4 : formOf c = 4
        · by_cases hk : 255 < k
          · rw [if_pos (.inr (.inr (.inr ⟨h4, hk⟩)))]
            exact rnext_far c a b k i 4 w ho' (hF _ h4) (hR false hr') rfl hi' hk
          · rw [if_neg (by rintro (h | h | h | ⟨_, h⟩) <;> first | omega | exact hn h | exact hr h | exact hk h), if_pos h4]
            exact rnext_ja c a b k i 4 w ho' (hF _ h4) (hR false hr') rfl hi' hk
        · rw [if_neg (by rintro (h | h | h | ⟨h, _⟩) <;> first | omega | exact hn h | exact hr h | exact h4 h), if_neg h4]
          by_cases h5 : formOf c = 5
          · rw [if_pos (.inl h5)]
            by_cases hab : a = b
            · subst hab
              rw [if_pos rfl]
              exact rnext_eq5 c a a k i 5 w ho' (hF _ h5) (hR false hr') rfl hi'
            · rw [if_neg hab]
              by_cases hlt : a < b
              · rw [if_pos hlt]
                exact rnext_lt5 c a b k i 5 w ho' (hF _ h5) (hR false hr') rfl hi' hlt
              · rw [if_neg hlt]
                exact rnext_gt5 c a b k i 5 w ho' (hF _ h5) (hR false hr') rfl hi' (by omega)
          · by_cases h6 : formOf c = 6
            · rw [if_pos (.inr h6)]
              by_cases hab : a = b
              · subst hab
                rw [if_pos rfl]
                exact rnext_eq6 c a a k i 6 w ho' (hF _ h6) (hR false hr') rfl hi'
              · rw [if_neg hab]
                by_cases hlt : a < b
                · rw [if_pos hlt]
                  exact rnext_lt6 c a b k i 6 w ho' (hF _ h6) (hR false hr') rfl hi' hlt
                · rw [if_neg hlt]
                  exact rnext_gt6 c a b k i 6 w ho' (hF _ h6) (hR false hr') rfl hi' (by omega)
            · rw [if_neg (by omega)]
              exact rnext_any c a b k i _ w ho' (hF _ rfl) (hR false hr') h0 h4 h5 h6 hi'
theorem rnext_all (q : Ins) (i : Nat) (w : World) (ho : insO q) : Calls Tryd.prog 26 #[valI q, .int .i64 i] w (NextR (nextL q i) w) :=
  (rnext_new q i w ho).mono fun _ _ ⟨A, c, h1, h2, h3, h4, _⟩ => ⟨A, c, h1, h2, h3, h4⟩
end Go.Proofs.YtgepeckdafeedaaDoor
