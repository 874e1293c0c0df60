/-
  check.Next: what comes next of an instruction at a place.
-/
import Derived.Test.YtpeofpilfpjjpaaGreatDoorCkN
set_option linter.unusedVariables false
namespace Go.Proofs.YtpeofpilfpjjpaaGreatDoor
open Go.RowKit

/-- The slice reads as these numbers; they lie below block B. -/
def Rn (w : World) (B : Nat) (A : Option Addr) (l : List Nat) : Prop := ∀ k, k < l.length → ∃ b off, A = some ⟨b, off, none⟩ ∧ b < B ∧ w.cell? ⟨b, off + k, none⟩ = some (.int .i64 ((l.getD k 0 : Nat) : Int))
theorem Rn.below {w w' : World} {B B' : Nat} {A : Option Addr} {l : List Nat} (h : Rn w B A l) (hb : Below B' w w') (hB : B ≤ B') : Rn w' B A l := fun k hk => by
  obtain ⟨b, off, e, h1, c⟩ := h k hk
  exact ⟨b, off, e, h1, (hb.cell (p := ⟨b, off + k, none⟩) (Nat.lt_of_lt_of_le h1 hB)).trans c⟩
theorem Rn.more {w : World} {B B' : Nat} {A : Option Addr} {l : List Nat} (h : Rn w B A l) (hB : B ≤ B') : Rn w B' A l := fun k hk => by
  obtain ⟨b, off, e, h1, r⟩ := h k hk
  exact ⟨b, off, e, by omega, r⟩
theorem Rn.nil {w : World} {B : Nat} {A : Option Addr} : Rn w B A [] := fun k hk => absurd hk (by simp)
theorem rn_one (w : World) (x : Nat) (z : Int) (h : z = x) : Rn (w.alloc (.cells #[.int .i64 z] 3)) (w.heap.size + 1) (some ⟨w.heap.size, 0, none⟩) [x] := fun k hk => by
  obtain rfl : k = 0 := by simpa using hk
  exact ⟨w.heap.size, 0, rfl, by omega, by subst h; simp⟩
theorem rn_two (w : World) (x y : Nat) (z u : Int) (h : z = x) (h' : u = y) : Rn (w.alloc (.cells #[.int .i64 z, .int .i64 u] 3)) (w.heap.size + 1) (some ⟨w.heap.size, 0, none⟩) [x, y] := fun k hk => by
  subst h h'
  have : k = 0 ∨ k = 1 := by simp at hk; omega
  rcases this with rfl | rfl
  · exact ⟨w.heap.size, 0, rfl, by omega, by simp⟩
  · exact ⟨w.heap.size, 0, rfl, by omega, by simp⟩
/-- What Next hands back. -/
def NextR (l : List Nat) (w : World) (e : Ending) (w' : World) : Prop := ∃ A c, e = .returned (.slice A l.length c) ∧ l.length ≤ c ∧ Rn w' w'.heap.size A l ∧ Below w.heap.size w w'

set_option maxRecDepth 100000 in
set_option maxHeartbeats 1000000 in
theorem next_neg (c a b k : Int) (i : Nat) (fm : Int) (w : World) (hK : Kinds w) (ho : InsOk c a b k)
    (hF : ∀ w, Kinds w → Calls Tryz.prog 103 #[.int .u16 c] w fun e w' => e = .returned (.int .i64 fm) ∧ w' = w) (f : fm = -1) (hi : (i : Int) ≤ 255) :
    Calls Tryz.prog 161 #[.agg #[.int .u16 c, .int .u8 a, .int .u8 b, .int .u32 k], .int .i64 i] w (NextR [] w) := by
  obtain ⟨c0, c1, a0, a1, b0, b1, k0, k1⟩ := ho
  have hi0 : ¬ (i : Int) < 0 := by omega
  have hi1 : ¬ 255 < (i : Int) := by omega
  subst f
  go_enter Tryz.func161, Tryz.ntmps161
  go_wp2_with fail
  have x0 : (w.alloc (.cells #[.int .u16 c, .int .u8 a, .int .u8 b, .int .u32 k] 111)).cell? ⟨w.heap.size, 0, none⟩ = some (Value.int .u16 c) := by simp
  have x1 : (w.alloc (.cells #[.int .u16 c, .int .u8 a, .int .u8 b, .int .u32 k] 111)).cell? ⟨w.heap.size, 1, none⟩ = some (Value.int .u8 a) := by simp
  have x2 : (w.alloc (.cells #[.int .u16 c, .int .u8 a, .int .u8 b, .int .u32 k] 111)).cell? ⟨w.heap.size, 2, none⟩ = some (Value.int .u8 b) := by simp
  have x3 : (w.alloc (.cells #[.int .u16 c, .int .u8 a, .int .u8 b, .int .u32 k] 111)).cell? ⟨w.heap.size, 3, none⟩ = some (Value.int .u32 k) := by simp
  have B1 := (Below.refl _ w).alloc (Nat.le_refl _) (.cells #[.int .u16 c, .int .u8 a, .int .u8 b, .int .u32 k] 111)
  have K1 := hK.alloc (.cells #[.int .u16 c, .int .u8 a, .int .u8 b, .int .u32 k] 111)
  obtain ⟨w1, hw1⟩ : ∃ w1, w.alloc (.cells #[.int .u16 c, .int .u8 a, .int .u8 b, .int .u32 k] 111) = w1 := ⟨_, rfl⟩
  rw [hw1] at x0 x1 x2 x3 B1 K1 ⊢
  clear hw1 hK
  refine (hF _ K1).mono ?_
  rintro e w2 ⟨rfl, rfl⟩
  go_wp2_with fail
  go_ret
  exact ⟨none, 0, rfl, Nat.le_refl _, Rn.nil, B1⟩

set_option maxRecDepth 100000 in
set_option maxHeartbeats 1000000 in
theorem next_ret' (c a b k : Int) (i : Nat) (fm : Int) (w : World) (hK : Kinds w) (ho : InsOk c a b k)
    (hF : ∀ w, Kinds w → Calls Tryz.prog 103 #[.int .u16 c] w fun e w' => e = .returned (.int .i64 fm) ∧ w' = w) (hR : ∀ w, Kinds w → Calls Tryz.prog 89 #[.agg #[.int .u16 c, .int .u8 a, .int .u8 b, .int .u32 k]] w fun e w' => e = .returned (.bool true) ∧ Below w.heap.size w w') (f : 0 ≤ fm) (hi : (i : Int) ≤ 255) :
    Calls Tryz.prog 161 #[.agg #[.int .u16 c, .int .u8 a, .int .u8 b, .int .u32 k], .int .i64 i] w (NextR [] w) := by
  obtain ⟨c0, c1, a0, a1, b0, b1, k0, k1⟩ := ho
  have hi0 : ¬ (i : Int) < 0 := by omega
  have hi1 : ¬ 255 < (i : Int) := by omega
  have f' : ¬ fm < 0 := by omega
  go_enter Tryz.func161, Tryz.ntmps161
  go_wp2_with fail
  have x0 : (w.alloc (.cells #[.int .u16 c, .int .u8 a, .int .u8 b, .int .u32 k] 111)).cell? ⟨w.heap.size, 0, none⟩ = some (Value.int .u16 c) := by simp
  have x1 : (w.alloc (.cells #[.int .u16 c, .int .u8 a, .int .u8 b, .int .u32 k] 111)).cell? ⟨w.heap.size, 1, none⟩ = some (Value.int .u8 a) := by simp
  have x2 : (w.alloc (.cells #[.int .u16 c, .int .u8 a, .int .u8 b, .int .u32 k] 111)).cell? ⟨w.heap.size, 2, none⟩ = some (Value.int .u8 b) := by simp
  have x3 : (w.alloc (.cells #[.int .u16 c, .int .u8 a, .int .u8 b, .int .u32 k] 111)).cell? ⟨w.heap.size, 3, none⟩ = some (Value.int .u32 k) := by simp
  have B1 := (Below.refl _ w).alloc (Nat.le_refl _) (.cells #[.int .u16 c, .int .u8 a, .int .u8 b, .int .u32 k] 111)
  have K1 := hK.alloc (.cells #[.int .u16 c, .int .u8 a, .int .u8 b, .int .u32 k] 111)
  obtain ⟨w1, hw1⟩ : ∃ w1, w.alloc (.cells #[.int .u16 c, .int .u8 a, .int .u8 b, .int .u32 k] 111) = w1 := ⟨_, rfl⟩
  rw [hw1] at x0 x1 x2 x3 B1 K1 ⊢
  clear hw1 hK
  refine (hF _ K1).mono ?_
  rintro e w2 ⟨rfl, rfl⟩
  go_wp2_with fail
  refine (hR _ K1).mono ?_
  rintro e w2 ⟨rfl, hb⟩
  replace x1 := (hb.cell (p := ⟨w.heap.size, 1, none⟩) (World.block_lt_of_cell? _ _ x1)).trans x1
  replace x2 := (hb.cell (p := ⟨w.heap.size, 2, none⟩) (World.block_lt_of_cell? _ _ x2)).trans x2
  replace x3 := (hb.cell (p := ⟨w.heap.size, 3, none⟩) (World.block_lt_of_cell? _ _ x3)).trans x3
  replace x0 := (hb.cell (p := ⟨w.heap.size, 0, none⟩) (World.block_lt_of_cell? _ _ x0)).trans x0
  replace B1 := B1.trans (hb.mono B1.size)
  replace K1 := K1.below hb K1.pos
  clear hb
  go_wp2_with fail
  go_ret
  exact ⟨none, 0, rfl, Nat.le_refl _, Rn.nil, B1⟩

set_option maxRecDepth 100000 in
set_option maxHeartbeats 1000000 in
theorem next_far (c a b k : Int) (i : Nat) (fm : Int) (w : World) (hK : Kinds w) (ho : InsOk c a b k)
    (hF : ∀ w, Kinds w → Calls Tryz.prog 103 #[.int .u16 c] w fun e w' => e = .returned (.int .i64 fm) ∧ w' = w) (hR : ∀ w, Kinds w → Calls Tryz.prog 89 #[.agg #[.int .u16 c, .int .u8 a, .int .u8 b, .int .u32 k]] w fun e w' => e = .returned (.bool false) ∧ Below w.heap.size w w') (f : fm = 4) (hi : (i : Int) ≤ 255) (h : 255 < k) :
    Calls Tryz.prog 161 #[.agg #[.int .u16 c, .int .u8 a, .int .u8 b, .int .u32 k], .int .i64 i] w (NextR [] w) := by
  obtain ⟨c0, c1, a0, a1, b0, b1, k0, k1⟩ := ho
  have hi0 : ¬ (i : Int) < 0 := by omega
  have hi1 : ¬ 255 < (i : Int) := by omega
  subst f
  go_enter Tryz.func161, Tryz.ntmps161
  go_wp2_with fail
  have x0 : (w.alloc (.cells #[.int .u16 c, .int .u8 a, .int .u8 b, .int .u32 k] 111)).cell? ⟨w.heap.size, 0, none⟩ = some (Value.int .u16 c) := by simp
  have x1 : (w.alloc (.cells #[.int .u16 c, .int .u8 a, .int .u8 b, .int .u32 k] 111)).cell? ⟨w.heap.size, 1, none⟩ = some (Value.int .u8 a) := by simp
  have x2 : (w.alloc (.cells #[.int .u16 c, .int .u8 a, .int .u8 b, .int .u32 k] 111)).cell? ⟨w.heap.size, 2, none⟩ = some (Value.int .u8 b) := by simp
  have x3 : (w.alloc (.cells #[.int .u16 c, .int .u8 a, .int .u8 b, .int .u32 k] 111)).cell? ⟨w.heap.size, 3, none⟩ = some (Value.int .u32 k) := by simp
  have B1 := (Below.refl _ w).alloc (Nat.le_refl _) (.cells #[.int .u16 c, .int .u8 a, .int .u8 b, .int .u32 k] 111)
  have K1 := hK.alloc (.cells #[.int .u16 c, .int .u8 a, .int .u8 b, .int .u32 k] 111)
  obtain ⟨w1, hw1⟩ : ∃ w1, w.alloc (.cells #[.int .u16 c, .int .u8 a, .int .u8 b, .int .u32 k] 111) = w1 := ⟨_, rfl⟩
  rw [hw1] at x0 x1 x2 x3 B1 K1 ⊢
  clear hw1 hK
  refine (hF _ K1).mono ?_
  rintro e w2 ⟨rfl, rfl⟩
  go_wp2_with fail
  refine (hR _ K1).mono ?_
  rintro e w2 ⟨rfl, hb⟩
  replace x1 := (hb.cell (p := ⟨w.heap.size, 1, none⟩) (World.block_lt_of_cell? _ _ x1)).trans x1
  replace x2 := (hb.cell (p := ⟨w.heap.size, 2, none⟩) (World.block_lt_of_cell? _ _ x2)).trans x2
  replace x3 := (hb.cell (p := ⟨w.heap.size, 3, none⟩) (World.block_lt_of_cell? _ _ x3)).trans x3
  replace x0 := (hb.cell (p := ⟨w.heap.size, 0, none⟩) (World.block_lt_of_cell? _ _ x0)).trans x0
  replace B1 := B1.trans (hb.mono B1.size)
  replace K1 := K1.below hb K1.pos
  clear hb
  go_wp2_with fail
  go_ret
  exact ⟨none, 0, rfl, Nat.le_refl _, Rn.nil, B1⟩

set_option maxRecDepth 100000 in
set_option maxHeartbeats 1000000 in
theorem next_ja (c a b k : Int) (i : Nat) (fm : Int) (w : World) (hK : Kinds w) (ho : InsOk c a b k)
    (hF : ∀ w, Kinds w → Calls Tryz.prog 103 #[.int .u16 c] w fun e w' => e = .returned (.int .i64 fm) ∧ w' = w) (hR : ∀ w, Kinds w → Calls Tryz.prog 89 #[.agg #[.int .u16 c, .int .u8 a, .int .u8 b, .int .u32 k]] w fun e w' => e = .returned (.bool false) ∧ Below w.heap.size w w') (f : fm = 4) (hi : (i : Int) ≤ 255) (h : ¬ 255 < k) :
    Calls Tryz.prog 161 #[.agg #[.int .u16 c, .int .u8 a, .int .u8 b, .int .u32 k], .int .i64 i] w (NextR [i + 1 + k.toNat] w) := by
  obtain ⟨c0, c1, a0, a1, b0, b1, k0, k1⟩ := ho
  have hi0 : ¬ (i : Int) < 0 := by omega
  have hi1 : ¬ 255 < (i : Int) := by omega
  subst f
  go_enter Tryz.func161, Tryz.ntmps161
  go_wp2_with fail
  have x0 : (w.alloc (.cells #[.int .u16 c, .int .u8 a, .int .u8 b, .int .u32 k] 111)).cell? ⟨w.heap.size, 0, none⟩ = some (Value.int .u16 c) := by simp
  have x1 : (w.alloc (.cells #[.int .u16 c, .int .u8 a, .int .u8 b, .int .u32 k] 111)).cell? ⟨w.heap.size, 1, none⟩ = some (Value.int .u8 a) := by simp
  have x2 : (w.alloc (.cells #[.int .u16 c, .int .u8 a, .int .u8 b, .int .u32 k] 111)).cell? ⟨w.heap.size, 2, none⟩ = some (Value.int .u8 b) := by simp
  have x3 : (w.alloc (.cells #[.int .u16 c, .int .u8 a, .int .u8 b, .int .u32 k] 111)).cell? ⟨w.heap.size, 3, none⟩ = some (Value.int .u32 k) := by simp
  have B1 := (Below.refl _ w).alloc (Nat.le_refl _) (.cells #[.int .u16 c, .int .u8 a, .int .u8 b, .int .u32 k] 111)
  have K1 := hK.alloc (.cells #[.int .u16 c, .int .u8 a, .int .u8 b, .int .u32 k] 111)
  obtain ⟨w1, hw1⟩ : ∃ w1, w.alloc (.cells #[.int .u16 c, .int .u8 a, .int .u8 b, .int .u32 k] 111) = w1 := ⟨_, rfl⟩
  rw [hw1] at x0 x1 x2 x3 B1 K1 ⊢
  clear hw1 hK
  refine (hF _ K1).mono ?_
  rintro e w2 ⟨rfl, rfl⟩
  go_wp2_with fail
  refine (hR _ K1).mono ?_
  rintro e w2 ⟨rfl, hb⟩
  replace x1 := (hb.cell (p := ⟨w.heap.size, 1, none⟩) (World.block_lt_of_cell? _ _ x1)).trans x1
  replace x2 := (hb.cell (p := ⟨w.heap.size, 2, none⟩) (World.block_lt_of_cell? _ _ x2)).trans x2
  replace x3 := (hb.cell (p := ⟨w.heap.size, 3, none⟩) (World.block_lt_of_cell? _ _ x3)).trans x3
  replace x0 := (hb.cell (p := ⟨w.heap.size, 0, none⟩) (World.block_lt_of_cell? _ _ x0)).trans x0
  replace B1 := B1.trans (hb.mono B1.size)
  replace K1 := K1.below hb K1.pos
  clear hb
  go_wp2_with fail
  go_ret
  exact ⟨_, 1, rfl, Nat.le_refl _, by simpa using rn_one _ (i + 1 + k.toNat) _ (by omega), B1.alloc B1.size _⟩

set_option maxRecDepth 100000 in
set_option maxHeartbeats 1000000 in
theorem next_lt (c a b k : Int) (i : Nat) (fm : Int) (w : World) (hK : Kinds w) (ho : InsOk c a b k)
    (hF : ∀ w, Kinds w → Calls Tryz.prog 103 #[.int .u16 c] w fun e w' => e = .returned (.int .i64 fm) ∧ w' = w) (hR : ∀ w, Kinds w → Calls Tryz.prog 89 #[.agg #[.int .u16 c, .int .u8 a, .int .u8 b, .int .u32 k]] w fun e w' => e = .returned (.bool false) ∧ Below w.heap.size w w') (hT : ∀ w, Kinds w → Calls Tryz.prog 105 #[.agg #[.int .u16 c, .int .u8 a, .int .u8 b, .int .u32 k]] w fun e w' => e = .returned (.bool true) ∧ Below w.heap.size w w') (f : 0 ≤ fm) (f4 : ¬ fm = 4) (hi : (i : Int) ≤ 255) (h : a < b) :
    Calls Tryz.prog 161 #[.agg #[.int .u16 c, .int .u8 a, .int .u8 b, .int .u32 k], .int .i64 i] w (NextR [i + 1 + a.toNat, i + 1 + b.toNat] w) := by
  obtain ⟨c0, c1, a0, a1, b0, b1, k0, k1⟩ := ho
  have hi0 : ¬ (i : Int) < 0 := by omega
  have hi1 : ¬ 255 < (i : Int) := by omega
  have f' : ¬ fm < 0 := by omega
  have h1 : ¬ a = b := by omega
  have h2 : min a b = a := by omega
  have h3 : max a b = b := by omega
  go_enter Tryz.func161, Tryz.ntmps161
  go_wp2_with fail
  have x0 : (w.alloc (.cells #[.int .u16 c, .int .u8 a, .int .u8 b, .int .u32 k] 111)).cell? ⟨w.heap.size, 0, none⟩ = some (Value.int .u16 c) := by simp
  have x1 : (w.alloc (.cells #[.int .u16 c, .int .u8 a, .int .u8 b, .int .u32 k] 111)).cell? ⟨w.heap.size, 1, none⟩ = some (Value.int .u8 a) := by simp
  have x2 : (w.alloc (.cells #[.int .u16 c, .int .u8 a, .int .u8 b, .int .u32 k] 111)).cell? ⟨w.heap.size, 2, none⟩ = some (Value.int .u8 b) := by simp
  have x3 : (w.alloc (.cells #[.int .u16 c, .int .u8 a, .int .u8 b, .int .u32 k] 111)).cell? ⟨w.heap.size, 3, none⟩ = some (Value.int .u32 k) := by simp
  have B1 := (Below.refl _ w).alloc (Nat.le_refl _) (.cells #[.int .u16 c, .int .u8 a, .int .u8 b, .int .u32 k] 111)
  have K1 := hK.alloc (.cells #[.int .u16 c, .int .u8 a, .int .u8 b, .int .u32 k] 111)
  obtain ⟨w1, hw1⟩ : ∃ w1, w.alloc (.cells #[.int .u16 c, .int .u8 a, .int .u8 b, .int .u32 k] 111) = w1 := ⟨_, rfl⟩
  rw [hw1] at x0 x1 x2 x3 B1 K1 ⊢
  clear hw1 hK
  refine (hF _ K1).mono ?_
  rintro e w2 ⟨rfl, rfl⟩
  go_wp2_with fail
  refine (hR _ K1).mono ?_
  rintro e w2 ⟨rfl, hb⟩
  replace x1 := (hb.cell (p := ⟨w.heap.size, 1, none⟩) (World.block_lt_of_cell? _ _ x1)).trans x1
  replace x2 := (hb.cell (p := ⟨w.heap.size, 2, none⟩) (World.block_lt_of_cell? _ _ x2)).trans x2
  replace x3 := (hb.cell (p := ⟨w.heap.size, 3, none⟩) (World.block_lt_of_cell? _ _ x3)).trans x3
  replace x0 := (hb.cell (p := ⟨w.heap.size, 0, none⟩) (World.block_lt_of_cell? _ _ x0)).trans x0
  replace B1 := B1.trans (hb.mono B1.size)
  replace K1 := K1.below hb K1.pos
  clear hb
  go_wp2_with fail
  refine (hT _ K1).mono ?_
  rintro e w2 ⟨rfl, hb⟩
  replace x1 := (hb.cell (p := ⟨w.heap.size, 1, none⟩) (World.block_lt_of_cell? _ _ x1)).trans x1
  replace x2 := (hb.cell (p := ⟨w.heap.size, 2, none⟩) (World.block_lt_of_cell? _ _ x2)).trans x2
  replace x3 := (hb.cell (p := ⟨w.heap.size, 3, none⟩) (World.block_lt_of_cell? _ _ x3)).trans x3
  replace x0 := (hb.cell (p := ⟨w.heap.size, 0, none⟩) (World.block_lt_of_cell? _ _ x0)).trans x0
  replace B1 := B1.trans (hb.mono B1.size)
  replace K1 := K1.below hb K1.pos
  clear hb
  go_wp2_with fail
  go_ret
  exact ⟨_, 2, rfl, Nat.le_refl _, by simpa using rn_two _ (i + 1 + a.toNat) (i + 1 + b.toNat) _ _ (by omega) (by omega), B1.alloc B1.size _⟩

set_option maxRecDepth 100000 in
set_option maxHeartbeats 1000000 in
theorem next_gt (c a b k : Int) (i : Nat) (fm : Int) (w : World) (hK : Kinds w) (ho : InsOk c a b k)
    (hF : ∀ w, Kinds w → Calls Tryz.prog 103 #[.int .u16 c] w fun e w' => e = .returned (.int .i64 fm) ∧ w' = w) (hR : ∀ w, Kinds w → Calls Tryz.prog 89 #[.agg #[.int .u16 c, .int .u8 a, .int .u8 b, .int .u32 k]] w fun e w' => e = .returned (.bool false) ∧ Below w.heap.size w w') (hT : ∀ w, Kinds w → Calls Tryz.prog 105 #[.agg #[.int .u16 c, .int .u8 a, .int .u8 b, .int .u32 k]] w fun e w' => e = .returned (.bool true) ∧ Below w.heap.size w w') (f : 0 ≤ fm) (f4 : ¬ fm = 4) (hi : (i : Int) ≤ 255) (h : b < a) :
    Calls Tryz.prog 161 #[.agg #[.int .u16 c, .int .u8 a, .int .u8 b, .int .u32 k], .int .i64 i] w (NextR [i + 1 + b.toNat, i + 1 + a.toNat] w) := by
  obtain ⟨c0, c1, a0, a1, b0, b1, k0, k1⟩ := ho
  have hi0 : ¬ (i : Int) < 0 := by omega
  have hi1 : ¬ 255 < (i : Int) := by omega
  have f' : ¬ fm < 0 := by omega
  have h1 : ¬ a = b := by omega
  have h2 : min a b = b := by omega
  have h3 : max a b = a := by omega
  go_enter Tryz.func161, Tryz.ntmps161
  go_wp2_with fail
  have x0 : (w.alloc (.cells #[.int .u16 c, .int .u8 a, .int .u8 b, .int .u32 k] 111)).cell? ⟨w.heap.size, 0, none⟩ = some (Value.int .u16 c) := by simp
  have x1 : (w.alloc (.cells #[.int .u16 c, .int .u8 a, .int .u8 b, .int .u32 k] 111)).cell? ⟨w.heap.size, 1, none⟩ = some (Value.int .u8 a) := by simp
  have x2 : (w.alloc (.cells #[.int .u16 c, .int .u8 a, .int .u8 b, .int .u32 k] 111)).cell? ⟨w.heap.size, 2, none⟩ = some (Value.int .u8 b) := by simp
  have x3 : (w.alloc (.cells #[.int .u16 c, .int .u8 a, .int .u8 b, .int .u32 k] 111)).cell? ⟨w.heap.size, 3, none⟩ = some (Value.int .u32 k) := by simp
  have B1 := (Below.refl _ w).alloc (Nat.le_refl _) (.cells #[.int .u16 c, .int .u8 a, .int .u8 b, .int .u32 k] 111)
  have K1 := hK.alloc (.cells #[.int .u16 c, .int .u8 a, .int .u8 b, .int .u32 k] 111)
  obtain ⟨w1, hw1⟩ : ∃ w1, w.alloc (.cells #[.int .u16 c, .int .u8 a, .int .u8 b, .int .u32 k] 111) = w1 := ⟨_, rfl⟩
  rw [hw1] at x0 x1 x2 x3 B1 K1 ⊢
  clear hw1 hK
  refine (hF _ K1).mono ?_
  rintro e w2 ⟨rfl, rfl⟩
  go_wp2_with fail
  refine (hR _ K1).mono ?_
  rintro e w2 ⟨rfl, hb⟩
  replace x1 := (hb.cell (p := ⟨w.heap.size, 1, none⟩) (World.block_lt_of_cell? _ _ x1)).trans x1
  replace x2 := (hb.cell (p := ⟨w.heap.size, 2, none⟩) (World.block_lt_of_cell? _ _ x2)).trans x2
  replace x3 := (hb.cell (p := ⟨w.heap.size, 3, none⟩) (World.block_lt_of_cell? _ _ x3)).trans x3
  replace x0 := (hb.cell (p := ⟨w.heap.size, 0, none⟩) (World.block_lt_of_cell? _ _ x0)).trans x0
  replace B1 := B1.trans (hb.mono B1.size)
  replace K1 := K1.below hb K1.pos
  clear hb
  go_wp2_with fail
  refine (hT _ K1).mono ?_
  rintro e w2 ⟨rfl, hb⟩
  replace x1 := (hb.cell (p := ⟨w.heap.size, 1, none⟩) (World.block_lt_of_cell? _ _ x1)).trans x1
  replace x2 := (hb.cell (p := ⟨w.heap.size, 2, none⟩) (World.block_lt_of_cell? _ _ x2)).trans x2
  replace x3 := (hb.cell (p := ⟨w.heap.size, 3, none⟩) (World.block_lt_of_cell? _ _ x3)).trans x3
  replace x0 := (hb.cell (p := ⟨w.heap.size, 0, none⟩) (World.block_lt_of_cell? _ _ x0)).trans x0
  replace B1 := B1.trans (hb.mono B1.size)
  replace K1 := K1.below hb K1.pos
  clear hb
  go_wp2_with fail
  go_ret
  exact ⟨_, 2, rfl, Nat.le_refl _, by simpa using rn_two _ (i + 1 + b.toNat) (i + 1 + a.toNat) _ _ (by omega) (by omega), B1.alloc B1.size _⟩

set_option maxRecDepth 100000 in
set_option maxHeartbeats 1000000 in
theorem next_eq (c a b k : Int) (i : Nat) (fm : Int) (w : World) (hK : Kinds w) (ho : InsOk c a b k)
    (hF : ∀ w, Kinds w → Calls Tryz.prog 103 #[.int .u16 c] w fun e w' => e = .returned (.int .i64 fm) ∧ w' = w) (hR : ∀ w, Kinds w → Calls Tryz.prog 89 #[.agg #[.int .u16 c, .int .u8 a, .int .u8 a, .int .u32 k]] w fun e w' => e = .returned (.bool false) ∧ Below w.heap.size w w') (hT : ∀ w, Kinds w → Calls Tryz.prog 105 #[.agg #[.int .u16 c, .int .u8 a, .int .u8 a, .int .u32 k]] w fun e w' => e = .returned (.bool true) ∧ Below w.heap.size w w') (f : 0 ≤ fm) (f4 : ¬ fm = 4) (hi : (i : Int) ≤ 255) :
    Calls Tryz.prog 161 #[.agg #[.int .u16 c, .int .u8 a, .int .u8 a, .int .u32 k], .int .i64 i] w (NextR [i + 1 + a.toNat] w) := by
  obtain ⟨c0, c1, a0, a1, b0, b1, k0, k1⟩ := ho
  have hi0 : ¬ (i : Int) < 0 := by omega
  have hi1 : ¬ 255 < (i : Int) := by omega
  have f' : ¬ fm < 0 := by omega
  go_enter Tryz.func161, Tryz.ntmps161
  go_wp2_with fail
  have x0 : (w.alloc (.cells #[.int .u16 c, .int .u8 a, .int .u8 a, .int .u32 k] 111)).cell? ⟨w.heap.size, 0, none⟩ = some (Value.int .u16 c) := by simp
  have x1 : (w.alloc (.cells #[.int .u16 c, .int .u8 a, .int .u8 a, .int .u32 k] 111)).cell? ⟨w.heap.size, 1, none⟩ = some (Value.int .u8 a) := by simp
  have x2 : (w.alloc (.cells #[.int .u16 c, .int .u8 a, .int .u8 a, .int .u32 k] 111)).cell? ⟨w.heap.size, 2, none⟩ = some (Value.int .u8 a) := by simp
  have x3 : (w.alloc (.cells #[.int .u16 c, .int .u8 a, .int .u8 a, .int .u32 k] 111)).cell? ⟨w.heap.size, 3, none⟩ = some (Value.int .u32 k) := by simp
  have B1 := (Below.refl _ w).alloc (Nat.le_refl _) (.cells #[.int .u16 c, .int .u8 a, .int .u8 a, .int .u32 k] 111)
  have K1 := hK.alloc (.cells #[.int .u16 c, .int .u8 a, .int .u8 a, .int .u32 k] 111)
  obtain ⟨w1, hw1⟩ : ∃ w1, w.alloc (.cells #[.int .u16 c, .int .u8 a, .int .u8 a, .int .u32 k] 111) = w1 := ⟨_, rfl⟩
  rw [hw1] at x0 x1 x2 x3 B1 K1 ⊢
  clear hw1 hK
  refine (hF _ K1).mono ?_
  rintro e w2 ⟨rfl, rfl⟩
  go_wp2_with fail
  refine (hR _ K1).mono ?_
  rintro e w2 ⟨rfl, hb⟩
  replace x1 := (hb.cell (p := ⟨w.heap.size, 1, none⟩) (World.block_lt_of_cell? _ _ x1)).trans x1
  replace x2 := (hb.cell (p := ⟨w.heap.size, 2, none⟩) (World.block_lt_of_cell? _ _ x2)).trans x2
  replace x3 := (hb.cell (p := ⟨w.heap.size, 3, none⟩) (World.block_lt_of_cell? _ _ x3)).trans x3
  replace x0 := (hb.cell (p := ⟨w.heap.size, 0, none⟩) (World.block_lt_of_cell? _ _ x0)).trans x0
  replace B1 := B1.trans (hb.mono B1.size)
  replace K1 := K1.below hb K1.pos
  clear hb
  go_wp2_with fail
  refine (hT _ K1).mono ?_
  rintro e w2 ⟨rfl, hb⟩
  replace x1 := (hb.cell (p := ⟨w.heap.size, 1, none⟩) (World.block_lt_of_cell? _ _ x1)).trans x1
  replace x2 := (hb.cell (p := ⟨w.heap.size, 2, none⟩) (World.block_lt_of_cell? _ _ x2)).trans x2
  replace x3 := (hb.cell (p := ⟨w.heap.size, 3, none⟩) (World.block_lt_of_cell? _ _ x3)).trans x3
  replace x0 := (hb.cell (p := ⟨w.heap.size, 0, none⟩) (World.block_lt_of_cell? _ _ x0)).trans x0
  replace B1 := B1.trans (hb.mono B1.size)
  replace K1 := K1.below hb K1.pos
  clear hb
  go_wp2_with fail
  refine (hT _ K1).mono ?_
  rintro e w2 ⟨rfl, hb⟩
  replace x1 := (hb.cell (p := ⟨w.heap.size, 1, none⟩) (World.block_lt_of_cell? _ _ x1)).trans x1
  replace x2 := (hb.cell (p := ⟨w.heap.size, 2, none⟩) (World.block_lt_of_cell? _ _ x2)).trans x2
  replace x3 := (hb.cell (p := ⟨w.heap.size, 3, none⟩) (World.block_lt_of_cell? _ _ x3)).trans x3
  replace x0 := (hb.cell (p := ⟨w.heap.size, 0, none⟩) (World.block_lt_of_cell? _ _ x0)).trans x0
  replace B1 := B1.trans (hb.mono B1.size)
  replace K1 := K1.below hb K1.pos
  clear hb
  go_wp2_with fail
  go_ret
  exact ⟨_, 1, rfl, Nat.le_refl _, by simpa using rn_one _ (i + 1 + a.toNat) _ (by omega), B1.alloc B1.size _⟩

set_option maxRecDepth 100000 in
set_option maxHeartbeats 1000000 in
theorem next_any' (c a b k : Int) (i : Nat) (fm : Int) (w : World) (hK : Kinds w) (ho : InsOk c a b k)
    (hF : ∀ w, Kinds w → Calls Tryz.prog 103 #[.int .u16 c] w fun e w' => e = .returned (.int .i64 fm) ∧ w' = w) (hR : ∀ w, Kinds w → Calls Tryz.prog 89 #[.agg #[.int .u16 c, .int .u8 a, .int .u8 b, .int .u32 k]] w fun e w' => e = .returned (.bool false) ∧ Below w.heap.size w w') (hT : ∀ w, Kinds w → Calls Tryz.prog 105 #[.agg #[.int .u16 c, .int .u8 a, .int .u8 b, .int .u32 k]] w fun e w' => e = .returned (.bool false) ∧ Below w.heap.size w w') (f : 0 ≤ fm) (f4 : ¬ fm = 4) (hi : (i : Int) ≤ 255) :
    Calls Tryz.prog 161 #[.agg #[.int .u16 c, .int .u8 a, .int .u8 b, .int .u32 k], .int .i64 i] w (NextR [i + 1] w) := by
  obtain ⟨c0, c1, a0, a1, b0, b1, k0, k1⟩ := ho
  have hi0 : ¬ (i : Int) < 0 := by omega
  have hi1 : ¬ 255 < (i : Int) := by omega
  have f' : ¬ fm < 0 := by omega
  go_enter Tryz.func161, Tryz.ntmps161
  go_wp2_with fail
  have x0 : (w.alloc (.cells #[.int .u16 c, .int .u8 a, .int .u8 b, .int .u32 k] 111)).cell? ⟨w.heap.size, 0, none⟩ = some (Value.int .u16 c) := by simp
  have x1 : (w.alloc (.cells #[.int .u16 c, .int .u8 a, .int .u8 b, .int .u32 k] 111)).cell? ⟨w.heap.size, 1, none⟩ = some (Value.int .u8 a) := by simp
  have x2 : (w.alloc (.cells #[.int .u16 c, .int .u8 a, .int .u8 b, .int .u32 k] 111)).cell? ⟨w.heap.size, 2, none⟩ = some (Value.int .u8 b) := by simp
  have x3 : (w.alloc (.cells #[.int .u16 c, .int .u8 a, .int .u8 b, .int .u32 k] 111)).cell? ⟨w.heap.size, 3, none⟩ = some (Value.int .u32 k) := by simp
  have B1 := (Below.refl _ w).alloc (Nat.le_refl _) (.cells #[.int .u16 c, .int .u8 a, .int .u8 b, .int .u32 k] 111)
  have K1 := hK.alloc (.cells #[.int .u16 c, .int .u8 a, .int .u8 b, .int .u32 k] 111)
  obtain ⟨w1, hw1⟩ : ∃ w1, w.alloc (.cells #[.int .u16 c, .int .u8 a, .int .u8 b, .int .u32 k] 111) = w1 := ⟨_, rfl⟩
  rw [hw1] at x0 x1 x2 x3 B1 K1 ⊢
  clear hw1 hK
  refine (hF _ K1).mono ?_
  rintro e w2 ⟨rfl, rfl⟩
  go_wp2_with fail
  refine (hR _ K1).mono ?_
  rintro e w2 ⟨rfl, hb⟩
  replace x1 := (hb.cell (p := ⟨w.heap.size, 1, none⟩) (World.block_lt_of_cell? _ _ x1)).trans x1
  replace x2 := (hb.cell (p := ⟨w.heap.size, 2, none⟩) (World.block_lt_of_cell? _ _ x2)).trans x2
  replace x3 := (hb.cell (p := ⟨w.heap.size, 3, none⟩) (World.block_lt_of_cell? _ _ x3)).trans x3
  replace x0 := (hb.cell (p := ⟨w.heap.size, 0, none⟩) (World.block_lt_of_cell? _ _ x0)).trans x0
  replace B1 := B1.trans (hb.mono B1.size)
  replace K1 := K1.below hb K1.pos
  clear hb
  go_wp2_with fail
  refine (hT _ K1).mono ?_
  rintro e w2 ⟨rfl, hb⟩
  replace x1 := (hb.cell (p := ⟨w.heap.size, 1, none⟩) (World.block_lt_of_cell? _ _ x1)).trans x1
  replace x2 := (hb.cell (p := ⟨w.heap.size, 2, none⟩) (World.block_lt_of_cell? _ _ x2)).trans x2
  replace x3 := (hb.cell (p := ⟨w.heap.size, 3, none⟩) (World.block_lt_of_cell? _ _ x3)).trans x3
  replace x0 := (hb.cell (p := ⟨w.heap.size, 0, none⟩) (World.block_lt_of_cell? _ _ x0)).trans x0
  replace B1 := B1.trans (hb.mono B1.size)
  replace K1 := K1.below hb K1.pos
  clear hb
  go_wp2_with fail
  refine (hT _ K1).mono ?_
  rintro e w2 ⟨rfl, hb⟩
  replace x1 := (hb.cell (p := ⟨w.heap.size, 1, none⟩) (World.block_lt_of_cell? _ _ x1)).trans x1
  replace x2 := (hb.cell (p := ⟨w.heap.size, 2, none⟩) (World.block_lt_of_cell? _ _ x2)).trans x2
  replace x3 := (hb.cell (p := ⟨w.heap.size, 3, none⟩) (World.block_lt_of_cell? _ _ x3)).trans x3
  replace x0 := (hb.cell (p := ⟨w.heap.size, 0, none⟩) (World.block_lt_of_cell? _ _ x0)).trans x0
  replace B1 := B1.trans (hb.mono B1.size)
  replace K1 := K1.below hb K1.pos
  clear hb
  go_wp2_with fail
  go_ret
  exact ⟨_, 1, rfl, Nat.le_refl _, by simpa using rn_one _ (i + 1) _ (by omega), B1.alloc B1.size _⟩

set_option maxHeartbeats 1000000 in
theorem next_big (c a b k : Int) (i : Nat) (w : World) (hi : 255 < (i : Int)) :
    Calls Tryz.prog 161 #[.agg #[.int .u16 c, .int .u8 a, .int .u8 b, .int .u32 k], .int .i64 i] w (NextR [] w) := by
  have hi0 : ¬ (i : Int) < 0 := by omega
  go_enter Tryz.func161, Tryz.ntmps161
  go_wp2_with fail
  go_ret
  exact ⟨none, 0, rfl, Nat.le_refl _, Rn.nil, (Below.refl _ _).alloc (Nat.le_refl _) _⟩

theorem next_any (q : Ins) (i : Nat) (w : World) (hK : Kinds w) (ho : insO q) : Calls Tryz.prog 161 #[valI q, .int .i64 i] w (NextR (nextL q i) w) := by
  obtain ⟨c, a, b, k⟩ := q
  have ho' : InsOk c a b k := ho
  have hF : ∀ fm, formOf c = fm → ∀ w, Kinds w → Calls Tryz.prog 103 #[.int .u16 c] w fun e w' => e = .returned (.int .i64 fm) ∧ w' = w := fun fm h w hK => by rw [← h]; exact form_any c w hK
  have hT : ∀ bo : Bool, decide (formOf c = 5 ∨ formOf c = 6) = bo → ∀ w, Kinds w → Calls Tryz.prog 105 #[.agg #[.int .u16 c, .int .u8 a, .int .u8 b, .int .u32 k]] w fun e w' => e = .returned (.bool bo) ∧ Below w.heap.size w w' := fun bo h w hK => by rw [← h]; exact tests_any (c, a, b, k) w hK
  have hR : ∀ bo : Bool, retI (c, a, b, k) = bo → ∀ w, Kinds w → Calls Tryz.prog 89 #[.agg #[.int .u16 c, .int .u8 a, .int .u8 b, .int .u32 k]] w fun e w' => e = .returned (.bool bo) ∧ Below w.heap.size w w' := fun bo h w hK => by rw [← h]; exact returns_any (c, a, b, k) w hK
  show Calls Tryz.prog 161 #[.agg #[.int .u16 c, .int .u8 a, .int .u8 b, .int .u32 k], .int .i64 i] w (NextR (nextL (c, a, b, k) i) w)
  unfold nextL
  simp only
  by_cases hi : 255 < i
  · rw [if_pos (.inl hi)]
    exact next_big c a b k i w (by omega)
  · have hi' : (i : Int) ≤ 255 := by omega
    by_cases hn : formOf c = -1
    · rw [if_pos (.inr (.inl hn))]
      exact next_neg c a b k i (-1) w hK ho' (hF _ hn) rfl hi'
    · have h0 : 0 ≤ formOf c := by have := form_cases c; omega
      by_cases hr : retI (c, a, b, k) = true
      · rw [if_pos (.inr (.inr (.inl hr)))]
        exact next_ret' c a b k i _ w hK ho' (hF _ rfl) (hR true hr) h0 hi'
      · have hr' : retI (c, a, b, k) = false := by simpa using hr
        by_cases h4 : formOf c = 4
        · by_cases hk : 255 < k
          · rw [if_pos (.inr (.inr (.inr ⟨h4, hk⟩)))]
            exact next_far c a b k i 4 w hK ho' (hF _ h4) (hR false hr') rfl hi' hk
          · rw [if_neg (by rintro (h | h | h | ⟨_, h⟩) <;> first | omega | exact hn h | exact hr h | exact hk h), if_pos h4]
            exact next_ja c a b k i 4 w hK ho' (hF _ h4) (hR false hr') rfl hi' hk
        · rw [if_neg (by rintro (h | h | h | ⟨h, _⟩) <;> first | omega | exact hn h | exact hr h | exact h4 h), if_neg h4]
          by_cases h5 : formOf c = 5 ∨ formOf c = 6
          · rw [if_pos h5]
            have hT' := hT true (by simp [h5])
            by_cases hab : a = b
            · subst hab
              rw [if_pos rfl]
              exact next_eq c a a k i _ w hK ho' (hF _ rfl) (hR false hr') hT' h0 h4 hi'
            · rw [if_neg hab]
              by_cases hlt : a < b
              · rw [if_pos hlt]
                exact next_lt c a b k i _ w hK ho' (hF _ rfl) (hR false hr') hT' h0 h4 hi' hlt
              · rw [if_neg hlt]
                exact next_gt c a b k i _ w hK ho' (hF _ rfl) (hR false hr') hT' h0 h4 hi' (by omega)
          · rw [if_neg h5]
            exact next_any' c a b k i _ w hK ho' (hF _ rfl) (hR false hr') (hT false (by simpa using h5)) h0 h4 hi'
end Go.Proofs.YtpeofpilfpjjpaaGreatDoor
