/-
  Range over a function that writes a variable of its own, the first block that it lays, while its rounds go on; no round leaves the loop.
-/
import Derived.Test.YtelfdpcenplhjaaGreatDoorQCkN
import Derived.Test.YtelfdpcenplhjaaGreatDoorQHH
import Derived.RangeFuncWrites
set_option linter.unusedVariables false
namespace Go.Proofs.YtelfdpcenplhjaaGreatDoor
open Go.RowKit
def Rn (w : World) (B : Nat) (A : Option Addr) (l : List Nat) : Prop := ∀ k, k < l.length → ∃ b off, A = some ⟨b, off, none⟩ ∧ b < B ∧ w.cell? ⟨b, off + k, none⟩ = some (.int .i64 ((l.getD k 0 : Nat) : Int))
theorem Rn.below {w w' : World} {B B' : Nat} {A : Option Addr} {l : List Nat} (h : Rn w B A l) (hb : Below B' w w') (hB : B ≤ B') : Rn w' B A l := fun k hk => by
  obtain ⟨b, off, e, h1, c⟩ := h k hk
  exact ⟨b, off, e, h1, (hb.cell (p := ⟨b, off + k, none⟩) (Nat.lt_of_lt_of_le h1 hB)).trans c⟩
theorem Rn.more {w : World} {B B' : Nat} {A : Option Addr} {l : List Nat} (h : Rn w B A l) (hB : B ≤ B') : Rn w B' A l := fun k hk => by
  obtain ⟨b, off, e, h1, r⟩ := h k hk
  exact ⟨b, off, e, by omega, r⟩
theorem Rn.nil {w : World} {B : Nat} {A : Option Addr} : Rn w B A [] := fun k hk => absurd hk (by simp)
theorem rn_one (w : World) (x : Nat) (z : Int) (h : z = x) : Rn (w.alloc (.cells #[.int .i64 z] 3)) (w.heap.size + 1) (some ⟨w.heap.size, 0, none⟩) [x] := fun k hk => by
  obtain rfl : k = 0 := by simpa using hk
  exact ⟨w.heap.size, 0, rfl, by omega, by subst h; simp⟩
theorem rn_two (w : World) (x y : Nat) (z u : Int) (h : z = x) (h' : u = y) : Rn (w.alloc (.cells #[.int .i64 z, .int .i64 u] 3)) (w.heap.size + 1) (some ⟨w.heap.size, 0, none⟩) [x, y] := fun k hk => by
  subst h h'
  have : k = 0 ∨ k = 1 := by simp at hk; omega
  rcases this with rfl | rfl
  · exact ⟨w.heap.size, 0, rfl, by omega, by simp⟩
  · exact ⟨w.heap.size, 0, rfl, by omega, by simp⟩
def NextR (l : List Nat) (w : World) (e : Ending) (w' : World) : Prop := ∃ A c, e = .returned (.slice A l.length c) ∧ l.length ≤ c ∧ Rn w' w'.heap.size A l ∧ Below w.heap.size w w'
set_option maxRecDepth 100000 in
set_option maxHeartbeats 1000000 in
theorem next_neg (c a b k : Int) (i : Nat) (fm : Int) (w : World) (hK : Kinds w) (ho : InsOk c a b k)
    (hF : ∀ w, Kinds w → Calls Tryz.prog 103 #[.int .u16 c] w fun e w' => e = .returned (.int .i64 fm) ∧ w' = w) (f : fm = -1) (hi : (i : Int) ≤ 255) :
    Calls Tryz.prog 161 #[.agg #[.int .u16 c, .int .u8 a, .int .u8 b, .int .u32 k], .int .i64 i] w (NextR [] w) := by
  obtain ⟨c0, c1, a0, a1, b0, b1, k0, k1⟩ := ho
  have hi0 : ¬ (i : Int) < 0 := by omega
  have hi1 : ¬ 255 < (i : Int) := by omega
  subst f
  go_enter Tryz.func161, Tryz.ntmps161
  go_wp2_with fail
  have x0 : (w.alloc (.cells #[.int .u16 c, .int .u8 a, .int .u8 b, .int .u32 k] 111)).cell? ⟨w.heap.size, 0, none⟩ = some (Value.int .u16 c) := by simp
  have x1 : (w.alloc (.cells #[.int .u16 c, .int .u8 a, .int .u8 b, .int .u32 k] 111)).cell? ⟨w.heap.size, 1, none⟩ = some (Value.int .u8 a) := by simp
  have x2 : (w.alloc (.cells #[.int .u16 c, .int .u8 a, .int .u8 b, .int .u32 k] 111)).cell? ⟨w.heap.size, 2, none⟩ = some (Value.int .u8 b) := by simp
  have x3 : (w.alloc (.cells #[.int .u16 c, .int .u8 a, .int .u8 b, .int .u32 k] 111)).cell? ⟨w.heap.size, 3, none⟩ = some (Value.int .u32 k) := by simp
  have B1 := (Below.refl _ w).alloc (Nat.le_refl _) (.cells #[.int .u16 c, .int .u8 a, .int .u8 b, .int .u32 k] 111)
  have K1 := hK.alloc (.cells #[.int .u16 c, .int .u8 a, .int .u8 b, .int .u32 k] 111)
  obtain ⟨w1, hw1⟩ : ∃ w1, w.alloc (.cells #[.int .u16 c, .int .u8 a, .int .u8 b, .int .u32 k] 111) = w1 := ⟨_, rfl⟩
  rw [hw1] at x0 x1 x2 x3 B1 K1 ⊢
  clear hw1 hK
  refine (hF _ K1).mono ?_
  rintro e w2 ⟨rfl, rfl⟩
  go_wp2_with fail
  go_ret
  exact ⟨none, 0, rfl, Nat.le_refl _, Rn.nil, B1⟩
set_option maxRecDepth 100000 in
set_option maxHeartbeats 1000000 in
theorem next_ret' (c a b k : Int) (i : Nat) (fm : Int) (w : World) (hK : Kinds w) (ho : InsOk c a b k)
    (hF : ∀ w, Kinds w → Calls Tryz.prog 103 #[.int .u16 c] w fun e w' => e = .returned (.int .i64 fm) ∧ w' = w) (hR : ∀ w, Kinds w → Calls Tryz.prog 89 #[.agg #[.int .u16 c, .int .u8 a, .int .u8 b, .int .u32 k]] w fun e w' => e = .returned (.bool true) ∧ Below w.heap.size w w') (f : 0 ≤ fm) (hi : (i : Int) ≤ 255) :
    Calls Tryz.prog 161 #[.agg #[.int .u16 c, .int .u8 a, .int .u8 b, .int .u32 k], .int .i64 i] w (NextR [] w) := by
  obtain ⟨c0, c1, a0, a1, b0, b1, k0, k1⟩ := ho
  have hi0 : ¬ (i : Int) < 0 := by omega
  have hi1 : ¬ 255 < (i : Int) := by omega
  have f' : ¬ fm < 0 := by omega
  go_enter Tryz.func161, Tryz.ntmps161
  go_wp2_with fail
  have x0 : (w.alloc (.cells #[.int .u16 c, .int .u8 a, .int .u8 b, .int .u32 k] 111)).cell? ⟨w.heap.size, 0, none⟩ = some (Value.int .u16 c) := by simp
  have x1 : (w.alloc (.cells #[.int .u16 c, .int .u8 a, .int .u8 b, .int .u32 k] 111)).cell? ⟨w.heap.size, 1, none⟩ = some (Value.int .u8 a) := by simp
  have x2 : (w.alloc (.cells #[.int .u16 c, .int .u8 a, .int .u8 b, .int .u32 k] 111)).cell? ⟨w.heap.size, 2, none⟩ = some (Value.int .u8 b) := by simp
  have x3 : (w.alloc (.cells #[.int .u16 c, .int .u8 a, .int .u8 b, .int .u32 k] 111)).cell? ⟨w.heap.size, 3, none⟩ = some (Value.int .u32 k) := by simp
  have B1 := (Below.refl _ w).alloc (Nat.le_refl _) (.cells #[.int .u16 c, .int .u8 a, .int .u8 b, .int .u32 k] 111)
  have K1 := hK.alloc (.cells #[.int .u16 c, .int .u8 a, .int .u8 b, .int .u32 k] 111)
  obtain ⟨w1, hw1⟩ : ∃ w1, w.alloc (.cells #[.int .u16 c, .int .u8 a, .int .u8 b, .int .u32 k] 111) = w1 := ⟨_, rfl⟩
  rw [hw1] at x0 x1 x2 x3 B1 K1 ⊢
  clear hw1 hK
  refine (hF _ K1).mono ?_
  rintro e w2 ⟨rfl, rfl⟩
  go_wp2_with fail
  refine (hR _ K1).mono ?_
  rintro e w2 ⟨rfl, hb⟩
  replace x1 := (hb.cell (p := ⟨w.heap.size, 1, none⟩) (World.block_lt_of_cell? _ _ x1)).trans x1
  replace x2 := (hb.cell (p := ⟨w.heap.size, 2, none⟩) (World.block_lt_of_cell? _ _ x2)).trans x2
  replace x3 := (hb.cell (p := ⟨w.heap.size, 3, none⟩) (World.block_lt_of_cell? _ _ x3)).trans x3
  replace x0 := (hb.cell (p := ⟨w.heap.size, 0, none⟩) (World.block_lt_of_cell? _ _ x0)).trans x0
  replace B1 := B1.trans (hb.mono B1.size)
  replace K1 := K1.below hb K1.pos
  clear hb
  go_wp2_with fail
  go_ret
  exact ⟨none, 0, rfl, Nat.le_refl _, Rn.nil, B1⟩
set_option maxRecDepth 100000 in
set_option maxHeartbeats 1000000 in
theorem next_far (c a b k : Int) (i : Nat) (fm : Int) (w : World) (hK : Kinds w) (ho : InsOk c a b k)
    (hF : ∀ w, Kinds w → Calls Tryz.prog 103 #[.int .u16 c] w fun e w' => e = .returned (.int .i64 fm) ∧ w' = w) (hR : ∀ w, Kinds w → Calls Tryz.prog 89 #[.agg #[.int .u16 c, .int .u8 a, .int .u8 b, .int .u32 k]] w fun e w' => e = .returned (.bool false) ∧ Below w.heap.size w w') (f : fm = 4) (hi : (i : Int) ≤ 255) (h : 255 < k) :
    Calls Tryz.prog 161 #[.agg #[.int .u16 c, .int .u8 a, .int .u8 b, .int .u32 k], .int .i64 i] w (NextR [] w) := by
  obtain ⟨c0, c1, a0, a1, b0, b1, k0, k1⟩ := ho
  have hi0 : ¬ (i : Int) < 0 := by omega
  have hi1 : ¬ 255 < (i : Int) := by omega
  subst f
  go_enter Tryz.func161, Tryz.ntmps161
  go_wp2_with fail
  have x0 : (w.alloc (.cells #[.int .u16 c, .int .u8 a, .int .u8 b, .int .u32 k] 111)).cell? ⟨w.heap.size, 0, none⟩ = some (Value.int .u16 c) := by simp
  have x1 : (w.alloc (.cells #[.int .u16 c, .int .u8 a, .int .u8 b, .int .u32 k] 111)).cell? ⟨w.heap.size, 1, none⟩ = some (Value.int .u8 a) := by simp
  have x2 : (w.alloc (.cells #[.int .u16 c, .int .u8 a, .int .u8 b, .int .u32 k] 111)).cell? ⟨w.heap.size, 2, none⟩ = some (Value.int .u8 b) := by simp
  have x3 : (w.alloc (.cells #[.int .u16 c, .int .u8 a, .int .u8 b, .int .u32 k] 111)).cell? ⟨w.heap.size, 3, none⟩ = some (Value.int .u32 k) := by simp
  have B1 := (Below.refl _ w).alloc (Nat.le_refl _) (.cells #[.int .u16 c, .int .u8 a, .int .u8 b, .int .u32 k] 111)
  have K1 := hK.alloc (.cells #[.int .u16 c, .int .u8 a, .int .u8 b, .int .u32 k] 111)
  obtain ⟨w1, hw1⟩ : ∃ w1, w.alloc (.cells #[.int .u16 c, .int .u8 a, .int .u8 b, .int .u32 k] 111) = w1 := ⟨_, rfl⟩
  rw [hw1] at x0 x1 x2 x3 B1 K1 ⊢
  clear hw1 hK
  refine (hF _ K1).mono ?_
  rintro e w2 ⟨rfl, rfl⟩
  go_wp2_with fail
  refine (hR _ K1).mono ?_
  rintro e w2 ⟨rfl, hb⟩
  replace x1 := (hb.cell (p := ⟨w.heap.size, 1, none⟩) (World.block_lt_of_cell? _ _ x1)).trans x1
  replace x2 := (hb.cell (p := ⟨w.heap.size, 2, none⟩) (World.block_lt_of_cell? _ _ x2)).trans x2
  replace x3 := (hb.cell (p := ⟨w.heap.size, 3, none⟩) (World.block_lt_of_cell? _ _ x3)).trans x3
  replace x0 := (hb.cell (p := ⟨w.heap.size, 0, none⟩) (World.block_lt_of_cell? _ _ x0)).trans x0
  replace B1 := B1.trans (hb.mono B1.size)
  replace K1 := K1.below hb K1.pos
  clear hb
  go_wp2_with fail
  go_ret
  exact ⟨none, 0, rfl, Nat.le_refl _, Rn.nil, B1⟩
set_option maxRecDepth 100000 in
set_option maxHeartbeats 1000000 in
theorem next_ja (c a b k : Int) (i : Nat) (fm : Int) (w : World) (hK : Kinds w) (ho : InsOk c a b k)
    (hF : ∀ w, Kinds w → Calls Tryz.prog 103 #[.int .u16 c] w fun e w' => e = .returned (.int .i64 fm) ∧ w' = w) (hR : ∀ w, Kinds w → Calls Tryz.prog 89 #[.agg #[.int .u16 c, .int .u8 a, .int .u8 b, .int .u32 k]] w fun e w' => e = .returned (.bool false) ∧ Below w.heap.size w w') (f : fm = 4) (hi : (i : Int) ≤ 255) (h : ¬ 255 < k) :
    Calls Tryz.prog 161 #[.agg #[.int .u16 c, .int .u8 a, .int .u8 b, .int .u32 k], .int .i64 i] w (NextR [i + 1 + k.toNat] w) := by
  obtain ⟨c0, c1, a0, a1, b0, b1, k0, k1⟩ := ho
  have hi0 : ¬ (i : Int) < 0 := by omega
  have hi1 : ¬ 255 < (i : Int) := by omega
  subst f
  go_enter Tryz.func161, Tryz.ntmps161
  go_wp2_with fail
  have x0 : (w.alloc (.cells #[.int .u16 c, .int .u8 a, .int .u8 b, .int .u32 k] 111)).cell? ⟨w.heap.size, 0, none⟩ = some (Value.int .u16 c) := by simp
  have x1 : (w.alloc (.cells #[.int .u16 c, .int .u8 a, .int .u8 b, .int .u32 k] 111)).cell? ⟨w.heap.size, 1, none⟩ = some (Value.int .u8 a) := by simp
  have x2 : (w.alloc (.cells #[.int .u16 c, .int .u8 a, .int .u8 b, .int .u32 k] 111)).cell? ⟨w.heap.size, 2, none⟩ = some (Value.int .u8 b) := by simp
  have x3 : (w.alloc (.cells #[.int .u16 c, .int .u8 a, .int .u8 b, .int .u32 k] 111)).cell? ⟨w.heap.size, 3, none⟩ = some (Value.int .u32 k) := by simp
  have B1 := (Below.refl _ w).alloc (Nat.le_refl _) (.cells #[.int .u16 c, .int .u8 a, .int .u8 b, .int .u32 k] 111)
  have K1 := hK.alloc (.cells #[.int .u16 c, .int .u8 a, .int .u8 b, .int .u32 k] 111)
  obtain ⟨w1, hw1⟩ : ∃ w1, w.alloc (.cells #[.int .u16 c, .int .u8 a, .int .u8 b, .int .u32 k] 111) = w1 := ⟨_, rfl⟩
  rw [hw1] at x0 x1 x2 x3 B1 K1 ⊢
  clear hw1 hK
  refine (hF _ K1).mono ?_
  rintro e w2 ⟨rfl, rfl⟩
  go_wp2_with fail
  refine (hR _ K1).mono ?_
  rintro e w2 ⟨rfl, hb⟩
  replace x1 := (hb.cell (p := ⟨w.heap.size, 1, none⟩) (World.block_lt_of_cell? _ _ x1)).trans x1
  replace x2 := (hb.cell (p := ⟨w.heap.size, 2, none⟩) (World.block_lt_of_cell? _ _ x2)).trans x2
  replace x3 := (hb.cell (p := ⟨w.heap.size, 3, none⟩) (World.block_lt_of_cell? _ _ x3)).trans x3
  replace x0 := (hb.cell (p := ⟨w.heap.size, 0, none⟩) (World.block_lt_of_cell? _ _ x0)).trans x0
  replace B1 := B1.trans (hb.mono B1.size)
  replace K1 := K1.below hb K1.pos
  clear hb
  go_wp2_with fail
  go_ret
  exact ⟨_, 1, rfl, Nat.le_refl _, by simpa using rn_one _ (i + 1 + k.toNat) _ (by omega), B1.alloc B1.size _⟩
set_option maxRecDepth 100000 in
set_option maxHeartbeats 1000000 in
theorem next_lt (c a b k : Int) (i : Nat) (fm : Int) (w : World) (hK : Kinds w) (ho : InsOk c a b k)
    (hF : ∀ w, Kinds w → Calls Tryz.prog 103 #[.int .u16 c] w fun e w' => e = .returned (.int .i64 fm) ∧ w' = w) (hR : ∀ w, Kinds w → Calls Tryz.prog 89 #[.agg #[.int .u16 c, .int .u8 a, .int .u8 b, .int .u32 k]] w fun e w' => e = .returned (.bool false) ∧ Below w.heap.size w w') (hT : ∀ w, Kinds w → Calls Tryz.prog 105 #[.agg #[.int .u16 c, .int .u8 a, .int .u8 b, .int .u32 k]] w fun e w' => e = .returned (.bool true) ∧ Below w.heap.size w w') (f : 0 ≤ fm) (f4 : ¬ fm = 4) (hi : (i : Int) ≤ 255) (h : a < b) :
    Calls Tryz.prog 161 #[.agg #[.int .u16 c, .int .u8 a, .int .u8 b, .int .u32 k], .int .i64 i] w (NextR [i + 1 + a.toNat, i + 1 + b.toNat] w) := by
  obtain ⟨c0, c1, a0, a1, b0, b1, k0, k1⟩ := ho
  have hi0 : ¬ (i : Int) < 0 := by omega
  have hi1 : ¬ 255 < (i : Int) := by omega
  have f' : ¬ fm < 0 := by omega
  have h1 : ¬ a = b := by omega
  have h2 : min a b = a := by omega
  have h3 : max a b = b := by omega
  go_enter Tryz.func161, Tryz.ntmps161
  go_wp2_with fail
  have x0 : (w.alloc (.cells #[.int .u16 c, .int .u8 a, .int .u8 b, .int .u32 k] 111)).cell? ⟨w.heap.size, 0, none⟩ = some (Value.int .u16 c) := by simp
  have x1 : (w.alloc (.cells #[.int .u16 c, .int .u8 a, .int .u8 b, .int .u32 k] 111)).cell? ⟨w.heap.size, 1, none⟩ = some (Value.int .u8 a) := by simp
  have x2 : (w.alloc (.cells #[.int .u16 c, .int .u8 a, .int .u8 b, .int .u32 k] 111)).cell? ⟨w.heap.size, 2, none⟩ = some (Value.int .u8 b) := by simp
  have x3 : (w.alloc (.cells #[.int .u16 c, .int .u8 a, .int .u8 b, .int .u32 k] 111)).cell? ⟨w.heap.size, 3, none⟩ = some (Value.int .u32 k) := by simp
  have B1 := (Below.refl _ w).alloc (Nat.le_refl _) (.cells #[.int .u16 c, .int .u8 a, .int .u8 b, .int .u32 k] 111)
  have K1 := hK.alloc (.cells #[.int .u16 c, .int .u8 a, .int .u8 b, .int .u32 k] 111)
  obtain ⟨w1, hw1⟩ : ∃ w1, w.alloc (.cells #[.int .u16 c, .int .u8 a, .int .u8 b, .int .u32 k] 111) = w1 := ⟨_, rfl⟩
  rw [hw1] at x0 x1 x2 x3 B1 K1 ⊢
  clear hw1 hK
  refine (hF _ K1).mono ?_
  rintro e w2 ⟨rfl, rfl⟩
  go_wp2_with fail
  refine (hR _ K1).mono ?_
  rintro e w2 ⟨rfl, hb⟩
  replace x1 := (hb.cell (p := ⟨w.heap.size, 1, none⟩) (World.block_lt_of_cell? _ _ x1)).trans x1
  replace x2 := (hb.cell (p := ⟨w.heap.size, 2, none⟩) (World.block_lt_of_cell? _ _ x2)).trans x2
  replace x3 := (hb.cell (p := ⟨w.heap.size, 3, none⟩) (World.block_lt_of_cell? _ _ x3)).trans x3
  replace x0 := (hb.cell (p := ⟨w.heap.size, 0, none⟩) (World.block_lt_of_cell? _ _ x0)).trans x0
  replace B1 := B1.trans (hb.mono B1.size)
  replace K1 := K1.below hb K1.pos
  clear hb
  go_wp2_with fail
  refine (hT _ K1).mono ?_
  rintro e w2 ⟨rfl, hb⟩
  replace x1 := (hb.cell (p := ⟨w.heap.size, 1, none⟩) (World.block_lt_of_cell? _ _ x1)).trans x1
  replace x2 := (hb.cell (p := ⟨w.heap.size, 2, none⟩) (World.block_lt_of_cell? _ _ x2)).trans x2
  replace x3 := (hb.cell (p := ⟨w.heap.size, 3, none⟩) (World.block_lt_of_cell? _ _ x3)).trans x3
  replace x0 := (hb.cell (p := ⟨w.heap.size, 0, none⟩) (World.block_lt_of_cell? _ _ x0)).trans x0
  replace B1 := B1.trans (hb.mono B1.size)
  replace K1 := K1.below hb K1.pos
  clear hb
  go_wp2_with fail
  go_ret
  exact ⟨_, 2, rfl, Nat.le_refl _, by simpa using rn_two _ (i + 1 + a.toNat) (i + 1 + b.toNat) _ _ (by omega) (by omega), B1.alloc B1.size _⟩
set_option maxRecDepth 100000 in
set_option maxHeartbeats 1000000 in
theorem next_gt (c a b k : Int) (i : Nat) (fm : Int) (w : World) (hK : Kinds w) (ho : InsOk c a b k)
    (hF : ∀ w, Kinds w → Calls Tryz.prog 103 #[.int .u16 c] w fun e w' => e = .returned (.int .i64 fm) ∧ w' = w) (hR : ∀ w, Kinds w → Calls Tryz.prog 89 #[.agg #[.int .u16 c, .int .u8 a, .int .u8 b, .int .u32 k]] w fun e w' => e = .returned (.bool false) ∧ Below w.heap.size w w') (hT : ∀ w, Kinds w → Calls Tryz.prog 105 #[.agg #[.int .u16 c, .int .u8 a, .int .u8 b, .int .u32 k]] w fun e w' => e = .returned (.bool true) ∧ Below w.heap.size w w') (f : 0 ≤ fm) (f4 : ¬ fm = 4) (hi : (i : Int) ≤ 255) (h : b < a) :
    Calls Tryz.prog 161 #[.agg #[.int .u16 c, .int .u8 a, .int .u8 b, .int .u32 k], .int .i64 i] w (NextR [i + 1 + b.toNat, i + 1 + a.toNat] w) := by
  obtain ⟨c0, c1, a0, a1, b0, b1, k0, k1⟩ := ho
  have hi0 : ¬ (i : Int) < 0 := by omega
  have hi1 : ¬ 255 < (i : Int) := by omega
  have f' : ¬ fm < 0 := by omega
  have h1 : ¬ a = b := by omega
  have h2 : min a b = b := by omega
  have h3 : max a b = a := by omega
  go_enter Tryz.func161, Tryz.ntmps161
  go_wp2_with fail
  have x0 : (w.alloc (.cells #[.int .u16 c, .int .u8 a, .int .u8 b, .int .u32 k] 111)).cell? ⟨w.heap.size, 0, none⟩ = some (Value.int .u16 c) := by simp
  have x1 : (w.alloc (.cells #[.int .u16 c, .int .u8 a, .int .u8 b, .int .u32 k] 111)).cell? ⟨w.heap.size, 1, none⟩ = some (Value.int .u8 a) := by simp
  have x2 : (w.alloc (.cells #[.int .u16 c, .int .u8 a, .int .u8 b, .int .u32 k] 111)).cell? ⟨w.heap.size, 2, none⟩ = some (Value.int .u8 b) := by simp
  have x3 : (w.alloc (.cells #[.int .u16 c, .int .u8 a, .int .u8 b, .int .u32 k] 111)).cell? ⟨w.heap.size, 3, none⟩ = some (Value.int .u32 k) := by simp
  have B1 := (Below.refl _ w).alloc (Nat.le_refl _) (.cells #[.int .u16 c, .int .u8 a, .int .u8 b, .int .u32 k] 111)
  have K1 := hK.alloc (.cells #[.int .u16 c, .int .u8 a, .int .u8 b, .int .u32 k] 111)
  obtain ⟨w1, hw1⟩ : ∃ w1, w.alloc (.cells #[.int .u16 c, .int .u8 a, .int .u8 b, .int .u32 k] 111) = w1 := ⟨_, rfl⟩
  rw [hw1] at x0 x1 x2 x3 B1 K1 ⊢
  clear hw1 hK
  refine (hF _ K1).mono ?_
  rintro e w2 ⟨rfl, rfl⟩
  go_wp2_with fail
  refine (hR _ K1).mono ?_
  rintro e w2 ⟨rfl, hb⟩
  replace x1 := (hb.cell (p := ⟨w.heap.size, 1, none⟩) (World.block_lt_of_cell? _ _ x1)).trans x1
  replace x2 := (hb.cell (p := ⟨w.heap.size, 2, none⟩) (World.block_lt_of_cell? _ _ x2)).trans x2
  replace x3 := (hb.cell (p := ⟨w.heap.size, 3, none⟩) (World.block_lt_of_cell? _ _ x3)).trans x3
  replace x0 := (hb.cell (p := ⟨w.heap.size, 0, none⟩) (World.block_lt_of_cell? _ _ x0)).trans x0
  replace B1 := B1.trans (hb.mono B1.size)
  replace K1 := K1.below hb K1.pos
  clear hb
  go_wp2_with fail
  refine (hT _ K1).mono ?_
  rintro e w2 ⟨rfl, hb⟩
  replace x1 := (hb.cell (p := ⟨w.heap.size, 1, none⟩) (World.block_lt_of_cell? _ _ x1)).trans x1
  replace x2 := (hb.cell (p := ⟨w.heap.size, 2, none⟩) (World.block_lt_of_cell? _ _ x2)).trans x2
  replace x3 := (hb.cell (p := ⟨w.heap.size, 3, none⟩) (World.block_lt_of_cell? _ _ x3)).trans x3
  replace x0 := (hb.cell (p := ⟨w.heap.size, 0, none⟩) (World.block_lt_of_cell? _ _ x0)).trans x0
  replace B1 := B1.trans (hb.mono B1.size)
  replace K1 := K1.below hb K1.pos
  clear hb
  go_wp2_with fail
  go_ret
  exact ⟨_, 2, rfl, Nat.le_refl _, by simpa using rn_two _ (i + 1 + b.toNat) (i + 1 + a.toNat) _ _ (by omega) (by omega), B1.alloc B1.size _⟩
set_option maxRecDepth 100000 in
set_option maxHeartbeats 1000000 in
theorem next_eq (c a b k : Int) (i : Nat) (fm : Int) (w : World) (hK : Kinds w) (ho : InsOk c a b k)
    (hF : ∀ w, Kinds w → Calls Tryz.prog 103 #[.int .u16 c] w fun e w' => e = .returned (.int .i64 fm) ∧ w' = w) (hR : ∀ w, Kinds w → Calls Tryz.prog 89 #[.agg #[.int .u16 c, .int .u8 a, .int .u8 a, .int .u32 k]] w fun e w' => e = .returned (.bool false) ∧ Below w.heap.size w w') (hT : ∀ w, Kinds w → Calls Tryz.prog 105 #[.agg #[.int .u16 c, .int .u8 a, .int .u8 a, .int .u32 k]] w fun e w' => e = .returned (.bool true) ∧ Below w.heap.size w w') (f : 0 ≤ fm) (f4 : ¬ fm = 4) (hi : (i : Int) ≤ 255) :
    Calls Tryz.prog 161 #[.agg #[.int .u16 c, .int .u8 a, .int .u8 a, .int .u32 k], .int .i64 i] w (NextR [i + 1 + a.toNat] w) := by
  obtain ⟨c0, c1, a0, a1, b0, b1, k0, k1⟩ := ho
  have hi0 : ¬ (i : Int) < 0 := by omega
  have hi1 : ¬ 255 < (i : Int) := by omega
  have f' : ¬ fm < 0 := by omega
  go_enter Tryz.func161, Tryz.ntmps161
  go_wp2_with fail
  have x0 : (w.alloc (.cells #[.int .u16 c, .int .u8 a, .int .u8 a, .int .u32 k] 111)).cell? ⟨w.heap.size, 0, none⟩ = some (Value.int .u16 c) := by simp
  have x1 : (w.alloc (.cells #[.int .u16 c, .int .u8 a, .int .u8 a, .int .u32 k] 111)).cell? ⟨w.heap.size, 1, none⟩ = some (Value.int .u8 a) := by simp
  have x2 : (w.alloc (.cells #[.int .u16 c, .int .u8 a, .int .u8 a, .int .u32 k] 111)).cell? ⟨w.heap.size, 2, none⟩ = some (Value.int .u8 a) := by simp
  have x3 : (w.alloc (.cells #[.int .u16 c, .int .u8 a, .int .u8 a, .int .u32 k] 111)).cell? ⟨w.heap.size, 3, none⟩ = some (Value.int .u32 k) := by simp
  have B1 := (Below.refl _ w).alloc (Nat.le_refl _) (.cells #[.int .u16 c, .int .u8 a, .int .u8 a, .int .u32 k] 111)
  have K1 := hK.alloc (.cells #[.int .u16 c, .int .u8 a, .int .u8 a, .int .u32 k] 111)
  obtain ⟨w1, hw1⟩ : ∃ w1, w.alloc (.cells #[.int .u16 c, .int .u8 a, .int .u8 a, .int .u32 k] 111) = w1 := ⟨_, rfl⟩
  rw [hw1] at x0 x1 x2 x3 B1 K1 ⊢
  clear hw1 hK
  refine (hF _ K1).mono ?_
  rintro e w2 ⟨rfl, rfl⟩
  go_wp2_with fail
  refine (hR _ K1).mono ?_
  rintro e w2 ⟨rfl, hb⟩
  replace x1 := (hb.cell (p := ⟨w.heap.size, 1, none⟩) (World.block_lt_of_cell? _ _ x1)).trans x1
  replace x2 := (hb.cell (p := ⟨w.heap.size, 2, none⟩) (World.block_lt_of_cell? _ _ x2)).trans x2
  replace x3 := (hb.cell (p := ⟨w.heap.size, 3, none⟩) (World.block_lt_of_cell? _ _ x3)).trans x3
  replace x0 := (hb.cell (p := ⟨w.heap.size, 0, none⟩) (World.block_lt_of_cell? _ _ x0)).trans x0
  replace B1 := B1.trans (hb.mono B1.size)
  replace K1 := K1.below hb K1.pos
  clear hb
  go_wp2_with fail
  refine (hT _ K1).mono ?_
  rintro e w2 ⟨rfl, hb⟩
  replace x1 := (hb.cell (p := ⟨w.heap.size, 1, none⟩) (World.block_lt_of_cell? _ _ x1)).trans x1
  replace x2 := (hb.cell (p := ⟨w.heap.size, 2, none⟩) (World.block_lt_of_cell? _ _ x2)).trans x2
  replace x3 := (hb.cell (p := ⟨w.heap.size, 3, none⟩) (World.block_lt_of_cell? _ _ x3)).trans x3
  replace x0 := (hb.cell (p := ⟨w.heap.size, 0, none⟩) (World.block_lt_of_cell? _ _ x0)).trans x0
  replace B1 := B1.trans (hb.mono B1.size)
  replace K1 := K1.below hb K1.pos
  clear hb
  go_wp2_with fail
  refine (hT _ K1).mono ?_
  rintro e w2 ⟨rfl, hb⟩
  replace x1 := (hb.cell (p := ⟨w.heap.size, 1, none⟩) (World.block_lt_of_cell? _ _ x1)).trans x1
  replace x2 := (hb.cell (p := ⟨w.heap.size, 2, none⟩) (World.block_lt_of_cell? _ _ x2)).trans x2
  replace x3 := (hb.cell (p := ⟨w.heap.size, 3, none⟩) (World.block_lt_of_cell? _ _ x3)).trans x3
  replace x0 := (hb.cell (p := ⟨w.heap.size, 0, none⟩) (World.block_lt_of_cell? _ _ x0)).trans x0
  replace B1 := B1.trans (hb.mono B1.size)
  replace K1 := K1.below hb K1.pos
  clear hb
  go_wp2_with fail
  go_ret
  exact ⟨_, 1, rfl, Nat.le_refl _, by simpa using rn_one _ (i + 1 + a.toNat) _ (by omega), B1.alloc B1.size _⟩
set_option maxRecDepth 100000 in
set_option maxHeartbeats 1000000 in
theorem next_any' (c a b k : Int) (i : Nat) (fm : Int) (w : World) (hK : Kinds w) (ho : InsOk c a b k)
    (hF : ∀ w, Kinds w → Calls Tryz.prog 103 #[.int .u16 c] w fun e w' => e = .returned (.int .i64 fm) ∧ w' = w) (hR : ∀ w, Kinds w → Calls Tryz.prog 89 #[.agg #[.int .u16 c, .int .u8 a, .int .u8 b, .int .u32 k]] w fun e w' => e = .returned (.bool false) ∧ Below w.heap.size w w') (hT : ∀ w, Kinds w → Calls Tryz.prog 105 #[.agg #[.int .u16 c, .int .u8 a, .int .u8 b, .int .u32 k]] w fun e w' => e = .returned (.bool false) ∧ Below w.heap.size w w') (f : 0 ≤ fm) (f4 : ¬ fm = 4) (hi : (i : Int) ≤ 255) :
    Calls Tryz.prog 161 #[.agg #[.int .u16 c, .int .u8 a, .int .u8 b, .int .u32 k], .int .i64 i] w (NextR [i + 1] w) := by
  obtain ⟨c0, c1, a0, a1, b0, b1, k0, k1⟩ := ho
  have hi0 : ¬ (i : Int) < 0 := by omega
  have hi1 : ¬ 255 < (i : Int) := by omega
  have f' : ¬ fm < 0 := by omega
  go_enter Tryz.func161, Tryz.ntmps161
  go_wp2_with fail
  have x0 : (w.alloc (.cells #[.int .u16 c, .int .u8 a, .int .u8 b, .int .u32 k] 111)).cell? ⟨w.heap.size, 0, none⟩ = some (Value.int .u16 c) := by simp
  have x1 : (w.alloc (.cells #[.int .u16 c, .int .u8 a, .int .u8 b, .int .u32 k] 111)).cell? ⟨w.heap.size, 1, none⟩ = some (Value.int .u8 a) := by simp
  have x2 : (w.alloc (.cells #[.int .u16 c, .int .u8 a, .int .u8 b, .int .u32 k] 111)).cell? ⟨w.heap.size, 2, none⟩ = some (Value.int .u8 b) := by simp
  have x3 : (w.alloc (.cells #[.int .u16 c, .int .u8 a, .int .u8 b, .int .u32 k] 111)).cell? ⟨w.heap.size, 3, none⟩ = some (Value.int .u32 k) := by simp
  have B1 := (Below.refl _ w).alloc (Nat.le_refl _) (.cells #[.int .u16 c, .int .u8 a, .int .u8 b, .int .u32 k] 111)
  have K1 := hK.alloc (.cells #[.int .u16 c, .int .u8 a, .int .u8 b, .int .u32 k] 111)
  obtain ⟨w1, hw1⟩ : ∃ w1, w.alloc (.cells #[.int .u16 c, .int .u8 a, .int .u8 b, .int .u32 k] 111) = w1 := ⟨_, rfl⟩
  rw [hw1] at x0 x1 x2 x3 B1 K1 ⊢
  clear hw1 hK
  refine (hF _ K1).mono ?_
  rintro e w2 ⟨rfl, rfl⟩
  go_wp2_with fail
  refine (hR _ K1).mono ?_
  rintro e w2 ⟨rfl, hb⟩
  replace x1 := (hb.cell (p := ⟨w.heap.size, 1, none⟩) (World.block_lt_of_cell? _ _ x1)).trans x1
  replace x2 := (hb.cell (p := ⟨w.heap.size, 2, none⟩) (World.block_lt_of_cell? _ _ x2)).trans x2
  replace x3 := (hb.cell (p := ⟨w.heap.size, 3, none⟩) (World.block_lt_of_cell? _ _ x3)).trans x3
  replace x0 := (hb.cell (p := ⟨w.heap.size, 0, none⟩) (World.block_lt_of_cell? _ _ x0)).trans x0
  replace B1 := B1.trans (hb.mono B1.size)
  replace K1 := K1.below hb K1.pos
  clear hb
  go_wp2_with fail
  refine (hT _ K1).mono ?_
  rintro e w2 ⟨rfl, hb⟩
  replace x1 := (hb.cell (p := ⟨w.heap.size, 1, none⟩) (World.block_lt_of_cell? _ _ x1)).trans x1
  replace x2 := (hb.cell (p := ⟨w.heap.size, 2, none⟩) (World.block_lt_of_cell? _ _ x2)).trans x2
  replace x3 := (hb.cell (p := ⟨w.heap.size, 3, none⟩) (World.block_lt_of_cell? _ _ x3)).trans x3
  replace x0 := (hb.cell (p := ⟨w.heap.size, 0, none⟩) (World.block_lt_of_cell? _ _ x0)).trans x0
  replace B1 := B1.trans (hb.mono B1.size)
  replace K1 := K1.below hb K1.pos
  clear hb
  go_wp2_with fail
  refine (hT _ K1).mono ?_
  rintro e w2 ⟨rfl, hb⟩
  replace x1 := (hb.cell (p := ⟨w.heap.size, 1, none⟩) (World.block_lt_of_cell? _ _ x1)).trans x1
  replace x2 := (hb.cell (p := ⟨w.heap.size, 2, none⟩) (World.block_lt_of_cell? _ _ x2)).trans x2
  replace x3 := (hb.cell (p := ⟨w.heap.size, 3, none⟩) (World.block_lt_of_cell? _ _ x3)).trans x3
  replace x0 := (hb.cell (p := ⟨w.heap.size, 0, none⟩) (World.block_lt_of_cell? _ _ x0)).trans x0
  replace B1 := B1.trans (hb.mono B1.size)
  replace K1 := K1.below hb K1.pos
  clear hb
  go_wp2_with fail
  go_ret
  exact ⟨_, 1, rfl, Nat.le_refl _, by simpa using rn_one _ (i + 1) _ (by omega), B1.alloc B1.size _⟩
set_option maxHeartbeats 1000000 in
theorem next_big (c a b k : Int) (i : Nat) (w : World) (hi : 255 < (i : Int)) :
    Calls Tryz.prog 161 #[.agg #[.int .u16 c, .int .u8 a, .int .u8 b, .int .u32 k], .int .i64 i] w (NextR [] w) := by
  have hi0 : ¬ (i : Int) < 0 := by omega
  go_enter Tryz.func161, Tryz.ntmps161
  go_wp2_with fail
  go_ret
  exact ⟨none, 0, rfl, Nat.le_refl _, Rn.nil, (Below.refl _ _).alloc (Nat.le_refl _) _⟩
theorem next_any (q : Ins) (i : Nat) (w : World) (hK : Kinds w) (ho : insO q) : Calls Tryz.prog 161 #[valI q, .int .i64 i] w (NextR (nextL q i) w) := by
  obtain ⟨c, a, b, k⟩ := q
  have ho' : InsOk c a b k := ho
  have hF : ∀ fm, formOf c = fm → ∀ w, Kinds w → Calls Tryz.prog 103 #[.int .u16 c] w fun e w' => e = .returned (.int .i64 fm) ∧ w' = w := fun fm h w hK => by rw [← h]; exact form_any c w hK
  have hT : ∀ bo : Bool, decide (formOf c = 5 ∨ formOf c = 6) = bo → ∀ w, Kinds w → Calls Tryz.prog 105 #[.agg #[.int .u16 c, .int .u8 a, .int .u8 b, .int .u32 k]] w fun e w' => e = .returned (.bool bo) ∧ Below w.heap.size w w' := fun bo h w hK => by rw [← h]; exact tests_any (c, a, b, k) w hK
  have hR : ∀ bo : Bool, retI (c, a, b, k) = bo → ∀ w, Kinds w → Calls Tryz.prog 89 #[.agg #[.int .u16 c, .int .u8 a, .int .u8 b, .int .u32 k]] w fun e w' => e = .returned (.bool bo) ∧ Below w.heap.size w w' := fun bo h w hK => by rw [← h]; exact returns_any (c, a, b, k) w hK
  show Calls Tryz.prog 161 #[.agg #[.int .u16 c, .int .u8 a, .int .u8 b, .int .u32 k], .int .i64 i] w (NextR (nextL (c, a, b, k) i) w)
  unfold nextL
  simp only
  by_cases hi : 255 < i
  · rw [if_pos (.inl hi)]
    exact next_big c a b k i w (by omega)
  · have hi' : (i : Int) ≤ 255 := by omega
    by_cases hn : formOf c = -1
    · rw [if_pos (.inr (.inl hn))]
      exact next_neg c a b k i (-1) w hK ho' (hF _ hn) rfl hi'
    · have h0 : 0 ≤ formOf c := by have := form_cases c; omega
      by_cases hr : retI (c, a, b, k) = true
      · rw [if_pos (.inr (.inr (.inl hr)))]
        exact next_ret' c a b k i _ w hK ho' (hF _ rfl) (hR true hr) h0 hi'
      · have hr' : retI (c, a, b, k) = false := by simpa using hr
        by_cases h4 : formOf c = 4
        · by_cases hk : 255 < k
          · rw [if_pos (.inr (.inr (.inr ⟨h4, hk⟩)))]
            exact next_far c a b k i 4 w hK ho' (hF _ h4) (hR false hr') rfl hi' hk
          · rw [if_neg (by rintro (h | h | h | ⟨_, h⟩) <;> first | omega | exact hn h | exact hr h | exact hk h), if_pos h4]
            exact next_ja c a b k i 4 w hK ho' (hF _ h4) (hR false hr') rfl hi' hk
        · rw [if_neg (by rintro (h | h | h | ⟨h, _⟩) <;> first | omega | exact hn h | exact hr h | exact h4 h), if_neg h4]
          by_cases h5 : formOf c = 5 ∨ formOf c = 6
          · rw [if_pos h5]
            have hT' := hT true (by simp [h5])
            by_cases hab : a = b
            · subst hab
              rw [if_pos rfl]
              exact next_eq c a a k i _ w hK ho' (hF _ rfl) (hR false hr') hT' h0 h4 hi'
            · rw [if_neg hab]
              by_cases hlt : a < b
              · rw [if_pos hlt]
                exact next_lt c a b k i _ w hK ho' (hF _ rfl) (hR false hr') hT' h0 h4 hi' hlt
              · rw [if_neg hlt]
                exact next_gt c a b k i _ w hK ho' (hF _ rfl) (hR false hr') hT' h0 h4 hi' (by omega)
          · rw [if_neg h5]
            exact next_any' c a b k i _ w hK ho' (hF _ rfl) (hR false hr') (hT false (by simpa using h5)) h0 h4 hi'
end Go.Proofs.YtelfdpcenplhjaaGreatDoor
namespace Go.Proofs.YtelfdpcenplhjaaGreatDoor
open Go.RowKit
section
variable {F : Fence} {n : Nat} {P : Program}
def AbidesB {β : Type} (B : Nat) (J : β → World → Prop) : Prop := ∀ s W W' row, J s W → W.grownBy W' row → (∀ r, row = some r → r = B) → J s W'
def AbidesT {β : Type} (B : Nat) (I : β → World → Prop) : Prop := ∀ s W W' row, I s W → W.grownBy W' row → (∀ r, row = some r → r = B ∨ r = B + 1 ∨ r = B + 2) → I s W'
def SeqOwn {α : Type} (F : Fence) (n : Nat) (P : Program) (g : Nat) (lb : Array Value) (encs : α → Array Value) (Kp : World → World → Prop) (S : List α → Prop) (N : Nat) (w : World) : Prop :=
  ∀ (l : Nat) (J : List α → World → Prop) (W : World), Below w.heap.size w W → AbidesB W.heap.size J →
    (∀ pre x W1, J pre W1 → W.heap.size < W1.heap.size → pre.length < N → YieldAt F (n - 1) P l (encs x) W1 fun e W' => e = .returned (.bool true) ∧ J (pre ++ [x]) W' ∧ Kp W1 W') →
    J [] W → CallsIn F n P g (#[.func (.yield l) #[] #[]] ++ lb) W fun e W' => (∃ v, e = .returned v) ∧ ∃ xs, S xs ∧ J xs W'
theorem wpIn_range4 {α : Type} {g : Operand} {ps : Array Tmp} {assign body : Code} {Q : Exit → Act → World → Prop} {a : Act} {w : World}
    (hro : F.round = none) (h1 : 1 ≤ n) {gf : Nat} {lb : Array Value} (hg : a.eval g = .func (.func gf) #[] lb) (hFg : F.fn gf) (eg : ∀ args w, (callFunc gf args).run P w = .ok (.enter gf args) w)
    {encs : α → Array Value} {Kp : World → World → Prop} {S : List α → Prop} {N : Nat} {w0 : World} (hseq : SeqOwn F (n - 1) P gf lb encs Kp S N w0)
    (hKt : ∀ {A B C : World}, Kp A B → Kp B C → Kp A C) (hKb : ∀ (W : World) (l : Nat) (o o' : Obj), w.heap.size ≤ l → W.heap[l]? = some o → o.isCells = false → o.isWalk = false → Kp W (W.putObj l o')) (hb0 : Below w0.heap.size w0 w) (hps : ∀ x, (encs x).size = ps.size)
    (I : List α → World → Prop) (hI : AbidesT w.heap.size I) (h0 : I [] w)
    (hround : ∀ (l : Nat) (pre : List α) (x : α) (W : World), I pre W → w.heap.size + 2 < W.heap.size → pre.length < N →
      assign.wpIn (F.inRound l) (n - 1 - 1) P (Exit.then (fun a1 W1 => (W1.heap[w.heap.size]? = W.heap[w.heap.size]? ∧ W1.heap[w.heap.size + 1]? = W.heap[w.heap.size + 1]?) ∧ Kp W W1 ∧
        ∀ o o', W1.heap[w.heap.size + 1]? = some o → o.isCells = false → body.wpIn (F.inRound l) (n - 1 - 1) P (fun e _ W3 => e = .normal ∧
          (W3.heap[w.heap.size]? = W1.heap[w.heap.size]? ∧ W3.heap[w.heap.size + 1]? = some o') ∧ Kp (W1.putObj (w.heap.size + 1) o') W3 ∧ I (pre ++ [x]) W3) a1 (W1.putObj (w.heap.size + 1) o')) (fun _ _ _ => False))
        { tmps := (ps.zip (encs x)).foldl (fun t (p, v) => t.setIfInBounds p v) a.tmps, defers := [] } W)
    (hdone : ∀ (xs : List α) (W : World), S xs → I xs W → W.heap[w.heap.size]? = some (.deferred (some [])) → Q .normal { a with defers := { target := .collected w.heap.size, args := #[] } :: a.defers } W) :
    (Code.rangeFunc g ps assign body).wpIn F n P Q a w := by
  refine wpIn_rangeFunc fun fn hfn => ?_
  rw [hro]
  let rec_ : LoopState → Option Code → Loop := fun st pe => { state := st, pending := pe, fn, tmps := a.tmps, params := ps, assign, body, defers := w.heap.size }
  have hsz : ((w.alloc (.deferred (some []))).alloc (.loop (rec_ .ready none))).heap.size = w.heap.size + 2 := by simp
  have hL : ((w.alloc (.deferred (some []))).alloc (.loop (rec_ .ready none))).heap[w.heap.size + 1]? = some (.loop (rec_ .ready none)) := by
    have := World.alloc_heap_new (w.alloc (.deferred (some []))) (.loop (rec_ .ready none))
    rwa [World.size_alloc] at this
  have hD : ((w.alloc (.deferred (some []))).alloc (.loop (rec_ .ready none))).heap[w.heap.size]? = some (.deferred (some [])) :=
    (Below.heap_alloc _ _ _ (by simp)).trans (World.alloc_heap_new w _)
  have hB : Below w.heap.size w ((w.alloc (.deferred (some []))).alloc (.loop (rec_ .ready none))) := ((Below.refl _ w).alloc (Nat.le_refl _) _).alloc (by simp) _
  have hI1 : I [] ((w.alloc (.deferred (some []))).alloc (.loop (rec_ .ready none))) := hI _ _ _ none h0 ⟨hB.os, hB.tape, hB.output, hB.size, fun k hk _ => hB.block k hk⟩ (fun r e => by cases e)
  refine ⟨w.heap.size + 1, [{ target := .collected w.heap.size, args := #[] }], _, { target := .fn (.func gf) lb, args := #[.func (.yield (w.heap.size + 1)) #[] #[]] }, _, gf,
    #[.func (.yield (w.heap.size + 1)) #[] #[]] ++ lb, _, run_enterLoop_outer _ _ _ _ _, by simp only [resolve, hg]; simp [go_sem]; rfl, ?_, by simp [invoke, go_sem, eg]; rfl, fun _ => h1, ?_⟩
  · intro f' hf'
    simp [Target.leads] at hf'
    subst hf'
    exact hFg
  · refine (hseq (w.heap.size + 1) (fun pre W => I pre W ∧ W.heap[w.heap.size + 1]? = some (.loop (rec_ .ready none)) ∧ W.heap[w.heap.size]? = some (.deferred (some []))) _ (hb0.trans (hB.mono hb0.size)) ?_ ?_ ⟨hI1, hL, hD⟩).mono ?_
    · rintro s A B row ⟨h1, h2, h3⟩ hgr hrow
      rw [hsz] at hrow
      have keep : ∀ k o, k < w.heap.size + 2 → A.heap[k]? = some o → B.heap[k]? = some o := fun k o hk ho => (hgr.block k (Array.getElem?_eq_some_iff.1 ho).1 (fun e => by have := hrow k e.symm; omega)).trans ho
      exact ⟨hI _ _ _ _ h1 hgr (fun r e => .inr (.inr (hrow r e))), keep _ _ (by omega) h2, keep _ _ (by omega) h3⟩
    · rintro pre x W ⟨hi, hl, hd⟩ hlt hlen
      rw [hsz] at hlt
      have hw : w.heap.size + 1 < W.heap.size := by omega
      refine ⟨fn, _, assign, body, run_yield (P := P) (args := encs x) hl (hps x), roundIn_of_wpIn hfn (wpIn_mono (hround (w.heap.size + 1) pre x W hi hlt hlen) ?_)⟩
      rintro e a1 W1 h
      cases e with
      | normal =>
        obtain ⟨⟨k1, k2⟩, hk, hb⟩ := h
        have hl1 := k2.trans hl
        refine ⟨_, run_beginRound hl1 rfl, ?_⟩
        refine wpIn_mono (hb _ (.loop { rec_ .ready none with state := .busy }) hl1 rfl) ?_
        rintro e a3 W3 ⟨rfl, ⟨m1, m2⟩, hk3, hi3⟩
        have hr := run_endRound (P := P) none m2
        have hs3 : w.heap.size + 1 < W3.heap.size := (Array.getElem?_eq_some_iff.1 m2).1
        refine ⟨_, _, hr, rfl, ⟨hI _ _ _ _ hi3 (grownBy_putObj' W3 _ _) (fun r e => by cases e; exact .inr (.inl rfl)), World.putObj_heap_same hs3, (World.putObj_heap_other (by omega)).trans (m1.trans (k1.trans hd))⟩,
          hKt hk (hKt (hKb _ _ _ _ (by omega) hl1 rfl rfl) (hKt hk3 (hKb _ _ _ _ (by omega) m2 rfl rfl)))⟩
      | _ => exact h.elim
    · rintro e W2 ⟨⟨v, rfl⟩, xs, hS, hi, hl, hd⟩
      have hs2 : w.heap.size + 1 < W2.heap.size := (Array.getElem?_eq_some_iff.1 hl).1
      exact ⟨none, _, run_endLoop (P := P) hl (by simp [rec_]), hdone xs _ hS (hI _ _ _ _ hi (grownBy_putObj' W2 _ _) (fun r e => by cases e; exact .inr (.inl rfl))) ((World.putObj_heap_other (by omega)).trans hd)⟩
end
end Go.Proofs.YtelfdpcenplhjaaGreatDoor
