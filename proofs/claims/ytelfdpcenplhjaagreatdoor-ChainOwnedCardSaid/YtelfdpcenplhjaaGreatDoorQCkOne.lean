/-
  check.One: why an instruction may not stand at a place.
-/
import Derived.Test.YtelfdpcenplhjaaGreatDoorQCkN
set_option linter.unusedVariables false
namespace Go.Proofs.YtelfdpcenplhjaaGreatDoor
open Go.RowKit
set_option maxRecDepth 100000 in
set_option maxHeartbeats 1000000 in
theorem one_ld1 (c a b k : Int) (i n : Nat) (fm : Int) (s : ByteArray) (w : World) (hK : Kinds w) (ho : InsOk c a b k)
    (hN : ∀ w, Kinds w → Calls Tryz.prog 102 #[.int .u16 c] w fun e w' => e = .returned (.tuple #[.string s, .bool true]) ∧ Below w.heap.size w w')
    (hF : ∀ w, Kinds w → Calls Tryz.prog 103 #[.int .u16 c] w fun e w' => e = .returned (.int .i64 fm) ∧ w' = w)
    (f : fm = 2)(m : s.toList = [108, 100, 46, 97, 98, 115])(h : ¬ k % 4 = 0) (h' : ¬ k.tmod 4 = 0) :
    Calls Tryz.prog 88 #[.agg #[.int .u16 c, .int .u8 a, .int .u8 b, .int .u32 k], .int .i64 i, .int .i64 n] w fun e w' => e = .returned (.int .i64 142) ∧ Below w.heap.size w w' := by
  obtain ⟨c0, c1, a0, a1, b0, b1, k0, k1⟩ := ho
  subst f
  go_enter Tryz.func88, Tryz.ntmps88
  go_wp2_with fail
  refine (hN _ (hK.alloc _)).mono ?_
  rintro e w1 ⟨rfl, hb⟩
  have B1 := ((Below.refl _ w).alloc (Nat.le_refl _) (.cells #[.int .u16 c, .int .u8 a, .int .u8 b, .int .u32 k] 111)).trans (hb.mono (by simp))
  have x0 := (hb.cell (p := ⟨w.heap.size, 0, none⟩) (by simp)).trans (show _ = some (Value.int .u16 c) by simp)
  have x1 := (hb.cell (p := ⟨w.heap.size, 1, none⟩) (by simp)).trans (show _ = some (Value.int .u8 a) by simp)
  have x2 := (hb.cell (p := ⟨w.heap.size, 2, none⟩) (by simp)).trans (show _ = some (Value.int .u8 b) by simp)
  have x3 := (hb.cell (p := ⟨w.heap.size, 3, none⟩) (by simp)).trans (show _ = some (Value.int .u32 k) by simp)
  clear hb hN
  have K1 := hK.below B1 hK.pos
  clear hK
  go_wp2_with fail
  refine (hF _ K1).mono ?_
  rintro e w2 ⟨rfl, rfl⟩
  go_wp2_with fail
  go_ret
  exact ⟨rfl, B1⟩
set_option maxRecDepth 100000 in
set_option maxHeartbeats 1000000 in
theorem one_ld2 (c a b k : Int) (i n : Nat) (fm : Int) (s : ByteArray) (w : World) (hK : Kinds w) (ho : InsOk c a b k)
    (hN : ∀ w, Kinds w → Calls Tryz.prog 102 #[.int .u16 c] w fun e w' => e = .returned (.tuple #[.string s, .bool true]) ∧ Below w.heap.size w w')
    (hF : ∀ w, Kinds w → Calls Tryz.prog 103 #[.int .u16 c] w fun e w' => e = .returned (.int .i64 fm) ∧ w' = w)
    (f : fm = 2)(m : s.toList = [108, 100, 46, 97, 98, 115])(h : k % 4 = 0) (h' : k.tmod 4 = 0) (g : 64 ≤ k) :
    Calls Tryz.prog 88 #[.agg #[.int .u16 c, .int .u8 a, .int .u8 b, .int .u32 k], .int .i64 i, .int .i64 n] w fun e w' => e = .returned (.int .i64 142) ∧ Below w.heap.size w w' := by
  obtain ⟨c0, c1, a0, a1, b0, b1, k0, k1⟩ := ho
  subst f
  go_enter Tryz.func88, Tryz.ntmps88
  go_wp2_with fail
  refine (hN _ (hK.alloc _)).mono ?_
  rintro e w1 ⟨rfl, hb⟩
  have B1 := ((Below.refl _ w).alloc (Nat.le_refl _) (.cells #[.int .u16 c, .int .u8 a, .int .u8 b, .int .u32 k] 111)).trans (hb.mono (by simp))
  have x0 := (hb.cell (p := ⟨w.heap.size, 0, none⟩) (by simp)).trans (show _ = some (Value.int .u16 c) by simp)
  have x1 := (hb.cell (p := ⟨w.heap.size, 1, none⟩) (by simp)).trans (show _ = some (Value.int .u8 a) by simp)
  have x2 := (hb.cell (p := ⟨w.heap.size, 2, none⟩) (by simp)).trans (show _ = some (Value.int .u8 b) by simp)
  have x3 := (hb.cell (p := ⟨w.heap.size, 3, none⟩) (by simp)).trans (show _ = some (Value.int .u32 k) by simp)
  clear hb hN
  have K1 := hK.below B1 hK.pos
  clear hK
  go_wp2_with fail
  refine (hF _ K1).mono ?_
  rintro e w2 ⟨rfl, rfl⟩
  go_wp2_with fail
  go_ret
  exact ⟨rfl, B1⟩
set_option maxRecDepth 100000 in
set_option maxHeartbeats 1000000 in
theorem one_ld3 (c a b k : Int) (i n : Nat) (fm : Int) (s : ByteArray) (w : World) (hK : Kinds w) (ho : InsOk c a b k)
    (hN : ∀ w, Kinds w → Calls Tryz.prog 102 #[.int .u16 c] w fun e w' => e = .returned (.tuple #[.string s, .bool true]) ∧ Below w.heap.size w w')
    (hF : ∀ w, Kinds w → Calls Tryz.prog 103 #[.int .u16 c] w fun e w' => e = .returned (.int .i64 fm) ∧ w' = w)
    (hT : ∀ w, Kinds w → Calls Tryz.prog 105 #[.agg #[.int .u16 c, .int .u8 a, .int .u8 b, .int .u32 k]] w fun e w' => e = .returned (.bool false) ∧ Below w.heap.size w w')
    (f : fm = 2)(m : s.toList = [108, 100, 46, 97, 98, 115])(h : k % 4 = 0) (h' : k.tmod 4 = 0) (g : ¬ 64 ≤ k) :
    Calls Tryz.prog 88 #[.agg #[.int .u16 c, .int .u8 a, .int .u8 b, .int .u32 k], .int .i64 i, .int .i64 n] w fun e w' => e = .returned (.int .i64 0) ∧ Below w.heap.size w w' := by
  obtain ⟨c0, c1, a0, a1, b0, b1, k0, k1⟩ := ho
  subst f
  go_enter Tryz.func88, Tryz.ntmps88
  go_wp2_with fail
  refine (hN _ (hK.alloc _)).mono ?_
  rintro e w1 ⟨rfl, hb⟩
  have B1 := ((Below.refl _ w).alloc (Nat.le_refl _) (.cells #[.int .u16 c, .int .u8 a, .int .u8 b, .int .u32 k] 111)).trans (hb.mono (by simp))
  have x0 := (hb.cell (p := ⟨w.heap.size, 0, none⟩) (by simp)).trans (show _ = some (Value.int .u16 c) by simp)
  have x1 := (hb.cell (p := ⟨w.heap.size, 1, none⟩) (by simp)).trans (show _ = some (Value.int .u8 a) by simp)
  have x2 := (hb.cell (p := ⟨w.heap.size, 2, none⟩) (by simp)).trans (show _ = some (Value.int .u8 b) by simp)
  have x3 := (hb.cell (p := ⟨w.heap.size, 3, none⟩) (by simp)).trans (show _ = some (Value.int .u32 k) by simp)
  clear hb hN
  have K1 := hK.below B1 hK.pos
  clear hK
  go_wp2_with fail
  refine (hF _ K1).mono ?_
  rintro e w2 ⟨rfl, rfl⟩
  go_wp2_with fail
  refine (hT _ K1).mono ?_
  rintro e w3 ⟨rfl, b3⟩
  have y1 := (b3.cell (p := ⟨w.heap.size, 1, none⟩) (World.block_lt_of_cell? _ _ x1)).trans x1
  have y2 := (b3.cell (p := ⟨w.heap.size, 2, none⟩) (World.block_lt_of_cell? _ _ x2)).trans x2
  replace B1 := B1.trans (b3.mono B1.size)
  clear x0 x1 x2 x3 b3
  go_wp2_with fail
  go_ret
  exact ⟨rfl, B1⟩
set_option maxRecDepth 100000 in
set_option maxHeartbeats 1000000 in
theorem one_div1 (c a b k : Int) (i n : Nat) (fm : Int) (s : ByteArray) (w : World) (hK : Kinds w) (ho : InsOk c a b k)
    (hN : ∀ w, Kinds w → Calls Tryz.prog 102 #[.int .u16 c] w fun e w' => e = .returned (.tuple #[.string s, .bool true]) ∧ Below w.heap.size w w')
    (hF : ∀ w, Kinds w → Calls Tryz.prog 103 #[.int .u16 c] w fun e w' => e = .returned (.int .i64 fm) ∧ w' = w)
    (f : fm = 1)(m : s.toList = [100, 105, 118, 46, 107])(h : k = 0) :
    Calls Tryz.prog 88 #[.agg #[.int .u16 c, .int .u8 a, .int .u8 b, .int .u32 k], .int .i64 i, .int .i64 n] w fun e w' => e = .returned (.int .i64 143) ∧ Below w.heap.size w w' := by
  obtain ⟨c0, c1, a0, a1, b0, b1, k0, k1⟩ := ho
  subst f
  subst h
  go_enter Tryz.func88, Tryz.ntmps88
  go_wp2_with fail
  refine (hN _ (hK.alloc _)).mono ?_
  rintro e w1 ⟨rfl, hb⟩
  have B1 := ((Below.refl _ w).alloc (Nat.le_refl _) (.cells #[.int .u16 c, .int .u8 a, .int .u8 b, .int .u32 0] 111)).trans (hb.mono (by simp))
  have x0 := (hb.cell (p := ⟨w.heap.size, 0, none⟩) (by simp)).trans (show _ = some (Value.int .u16 c) by simp)
  have x1 := (hb.cell (p := ⟨w.heap.size, 1, none⟩) (by simp)).trans (show _ = some (Value.int .u8 a) by simp)
  have x2 := (hb.cell (p := ⟨w.heap.size, 2, none⟩) (by simp)).trans (show _ = some (Value.int .u8 b) by simp)
  have x3 := (hb.cell (p := ⟨w.heap.size, 3, none⟩) (by simp)).trans (show _ = some (Value.int .u32 0) by simp)
  clear hb hN
  have K1 := hK.below B1 hK.pos
  clear hK
  go_wp2_with fail
  refine (hF _ K1).mono ?_
  rintro e w2 ⟨rfl, rfl⟩
  go_wp2_with fail
  go_ret
  exact ⟨rfl, B1⟩
set_option maxRecDepth 100000 in
set_option maxHeartbeats 1000000 in
theorem one_div2 (c a b k : Int) (i n : Nat) (fm : Int) (s : ByteArray) (w : World) (hK : Kinds w) (ho : InsOk c a b k)
    (hN : ∀ w, Kinds w → Calls Tryz.prog 102 #[.int .u16 c] w fun e w' => e = .returned (.tuple #[.string s, .bool true]) ∧ Below w.heap.size w w')
    (hF : ∀ w, Kinds w → Calls Tryz.prog 103 #[.int .u16 c] w fun e w' => e = .returned (.int .i64 fm) ∧ w' = w)
    (hT : ∀ w, Kinds w → Calls Tryz.prog 105 #[.agg #[.int .u16 c, .int .u8 a, .int .u8 b, .int .u32 k]] w fun e w' => e = .returned (.bool false) ∧ Below w.heap.size w w')
    (f : fm = 1)(m : s.toList = [100, 105, 118, 46, 107])(h : ¬ k = 0) :
    Calls Tryz.prog 88 #[.agg #[.int .u16 c, .int .u8 a, .int .u8 b, .int .u32 k], .int .i64 i, .int .i64 n] w fun e w' => e = .returned (.int .i64 0) ∧ Below w.heap.size w w' := by
  obtain ⟨c0, c1, a0, a1, b0, b1, k0, k1⟩ := ho
  subst f
  go_enter Tryz.func88, Tryz.ntmps88
  go_wp2_with fail
  refine (hN _ (hK.alloc _)).mono ?_
  rintro e w1 ⟨rfl, hb⟩
  have B1 := ((Below.refl _ w).alloc (Nat.le_refl _) (.cells #[.int .u16 c, .int .u8 a, .int .u8 b, .int .u32 k] 111)).trans (hb.mono (by simp))
  have x0 := (hb.cell (p := ⟨w.heap.size, 0, none⟩) (by simp)).trans (show _ = some (Value.int .u16 c) by simp)
  have x1 := (hb.cell (p := ⟨w.heap.size, 1, none⟩) (by simp)).trans (show _ = some (Value.int .u8 a) by simp)
  have x2 := (hb.cell (p := ⟨w.heap.size, 2, none⟩) (by simp)).trans (show _ = some (Value.int .u8 b) by simp)
  have x3 := (hb.cell (p := ⟨w.heap.size, 3, none⟩) (by simp)).trans (show _ = some (Value.int .u32 k) by simp)
  clear hb hN
  have K1 := hK.below B1 hK.pos
  clear hK
  go_wp2_with fail
  refine (hF _ K1).mono ?_
  rintro e w2 ⟨rfl, rfl⟩
  go_wp2_with fail
  refine (hT _ K1).mono ?_
  rintro e w3 ⟨rfl, b3⟩
  have y1 := (b3.cell (p := ⟨w.heap.size, 1, none⟩) (World.block_lt_of_cell? _ _ x1)).trans x1
  have y2 := (b3.cell (p := ⟨w.heap.size, 2, none⟩) (World.block_lt_of_cell? _ _ x2)).trans x2
  replace B1 := B1.trans (b3.mono B1.size)
  clear x0 x1 x2 x3 b3
  go_wp2_with fail
  go_ret
  exact ⟨rfl, B1⟩
set_option maxRecDepth 100000 in
set_option maxHeartbeats 1000000 in
theorem one_lsh1 (c a b k : Int) (i n : Nat) (fm : Int) (s : ByteArray) (w : World) (hK : Kinds w) (ho : InsOk c a b k)
    (hN : ∀ w, Kinds w → Calls Tryz.prog 102 #[.int .u16 c] w fun e w' => e = .returned (.tuple #[.string s, .bool true]) ∧ Below w.heap.size w w')
    (hF : ∀ w, Kinds w → Calls Tryz.prog 103 #[.int .u16 c] w fun e w' => e = .returned (.int .i64 fm) ∧ w' = w)
    (f : fm = 1)(m : s.toList = [108, 115, 104, 46, 107])(h : 32 ≤ k) :
    Calls Tryz.prog 88 #[.agg #[.int .u16 c, .int .u8 a, .int .u8 b, .int .u32 k], .int .i64 i, .int .i64 n] w fun e w' => e = .returned (.int .i64 144) ∧ Below w.heap.size w w' := by
  obtain ⟨c0, c1, a0, a1, b0, b1, k0, k1⟩ := ho
  subst f
  go_enter Tryz.func88, Tryz.ntmps88
  go_wp2_with fail
  refine (hN _ (hK.alloc _)).mono ?_
  rintro e w1 ⟨rfl, hb⟩
  have B1 := ((Below.refl _ w).alloc (Nat.le_refl _) (.cells #[.int .u16 c, .int .u8 a, .int .u8 b, .int .u32 k] 111)).trans (hb.mono (by simp))
  have x0 := (hb.cell (p := ⟨w.heap.size, 0, none⟩) (by simp)).trans (show _ = some (Value.int .u16 c) by simp)
  have x1 := (hb.cell (p := ⟨w.heap.size, 1, none⟩) (by simp)).trans (show _ = some (Value.int .u8 a) by simp)
  have x2 := (hb.cell (p := ⟨w.heap.size, 2, none⟩) (by simp)).trans (show _ = some (Value.int .u8 b) by simp)
  have x3 := (hb.cell (p := ⟨w.heap.size, 3, none⟩) (by simp)).trans (show _ = some (Value.int .u32 k) by simp)
  clear hb hN
  have K1 := hK.below B1 hK.pos
  clear hK
  go_wp2_with fail
  refine (hF _ K1).mono ?_
  rintro e w2 ⟨rfl, rfl⟩
  go_wp2_with fail
  go_ret
  exact ⟨rfl, B1⟩
set_option maxRecDepth 100000 in
set_option maxHeartbeats 1000000 in
theorem one_lsh2 (c a b k : Int) (i n : Nat) (fm : Int) (s : ByteArray) (w : World) (hK : Kinds w) (ho : InsOk c a b k)
    (hN : ∀ w, Kinds w → Calls Tryz.prog 102 #[.int .u16 c] w fun e w' => e = .returned (.tuple #[.string s, .bool true]) ∧ Below w.heap.size w w')
    (hF : ∀ w, Kinds w → Calls Tryz.prog 103 #[.int .u16 c] w fun e w' => e = .returned (.int .i64 fm) ∧ w' = w)
    (hT : ∀ w, Kinds w → Calls Tryz.prog 105 #[.agg #[.int .u16 c, .int .u8 a, .int .u8 b, .int .u32 k]] w fun e w' => e = .returned (.bool false) ∧ Below w.heap.size w w')
    (f : fm = 1)(m : s.toList = [108, 115, 104, 46, 107])(h : ¬ 32 ≤ k) :
    Calls Tryz.prog 88 #[.agg #[.int .u16 c, .int .u8 a, .int .u8 b, .int .u32 k], .int .i64 i, .int .i64 n] w fun e w' => e = .returned (.int .i64 0) ∧ Below w.heap.size w w' := by
  obtain ⟨c0, c1, a0, a1, b0, b1, k0, k1⟩ := ho
  subst f
  go_enter Tryz.func88, Tryz.ntmps88
  go_wp2_with fail
  refine (hN _ (hK.alloc _)).mono ?_
  rintro e w1 ⟨rfl, hb⟩
  have B1 := ((Below.refl _ w).alloc (Nat.le_refl _) (.cells #[.int .u16 c, .int .u8 a, .int .u8 b, .int .u32 k] 111)).trans (hb.mono (by simp))
  have x0 := (hb.cell (p := ⟨w.heap.size, 0, none⟩) (by simp)).trans (show _ = some (Value.int .u16 c) by simp)
  have x1 := (hb.cell (p := ⟨w.heap.size, 1, none⟩) (by simp)).trans (show _ = some (Value.int .u8 a) by simp)
  have x2 := (hb.cell (p := ⟨w.heap.size, 2, none⟩) (by simp)).trans (show _ = some (Value.int .u8 b) by simp)
  have x3 := (hb.cell (p := ⟨w.heap.size, 3, none⟩) (by simp)).trans (show _ = some (Value.int .u32 k) by simp)
  clear hb hN
  have K1 := hK.below B1 hK.pos
  clear hK
  go_wp2_with fail
  refine (hF _ K1).mono ?_
  rintro e w2 ⟨rfl, rfl⟩
  go_wp2_with fail
  refine (hT _ K1).mono ?_
  rintro e w3 ⟨rfl, b3⟩
  have y1 := (b3.cell (p := ⟨w.heap.size, 1, none⟩) (World.block_lt_of_cell? _ _ x1)).trans x1
  have y2 := (b3.cell (p := ⟨w.heap.size, 2, none⟩) (World.block_lt_of_cell? _ _ x2)).trans x2
  replace B1 := B1.trans (b3.mono B1.size)
  clear x0 x1 x2 x3 b3
  go_wp2_with fail
  go_ret
  exact ⟨rfl, B1⟩
set_option maxRecDepth 100000 in
set_option maxHeartbeats 1000000 in
theorem one_rsh1 (c a b k : Int) (i n : Nat) (fm : Int) (s : ByteArray) (w : World) (hK : Kinds w) (ho : InsOk c a b k)
    (hN : ∀ w, Kinds w → Calls Tryz.prog 102 #[.int .u16 c] w fun e w' => e = .returned (.tuple #[.string s, .bool true]) ∧ Below w.heap.size w w')
    (hF : ∀ w, Kinds w → Calls Tryz.prog 103 #[.int .u16 c] w fun e w' => e = .returned (.int .i64 fm) ∧ w' = w)
    (f : fm = 1)(m : s.toList = [114, 115, 104, 46, 107])(h : 32 ≤ k) :
    Calls Tryz.prog 88 #[.agg #[.int .u16 c, .int .u8 a, .int .u8 b, .int .u32 k], .int .i64 i, .int .i64 n] w fun e w' => e = .returned (.int .i64 144) ∧ Below w.heap.size w w' := by
  obtain ⟨c0, c1, a0, a1, b0, b1, k0, k1⟩ := ho
  subst f
  go_enter Tryz.func88, Tryz.ntmps88
  go_wp2_with fail
  refine (hN _ (hK.alloc _)).mono ?_
  rintro e w1 ⟨rfl, hb⟩
  have B1 := ((Below.refl _ w).alloc (Nat.le_refl _) (.cells #[.int .u16 c, .int .u8 a, .int .u8 b, .int .u32 k] 111)).trans (hb.mono (by simp))
  have x0 := (hb.cell (p := ⟨w.heap.size, 0, none⟩) (by simp)).trans (show _ = some (Value.int .u16 c) by simp)
  have x1 := (hb.cell (p := ⟨w.heap.size, 1, none⟩) (by simp)).trans (show _ = some (Value.int .u8 a) by simp)
  have x2 := (hb.cell (p := ⟨w.heap.size, 2, none⟩) (by simp)).trans (show _ = some (Value.int .u8 b) by simp)
  have x3 := (hb.cell (p := ⟨w.heap.size, 3, none⟩) (by simp)).trans (show _ = some (Value.int .u32 k) by simp)
  clear hb hN
  have K1 := hK.below B1 hK.pos
  clear hK
  go_wp2_with fail
  refine (hF _ K1).mono ?_
  rintro e w2 ⟨rfl, rfl⟩
  go_wp2_with fail
  go_ret
  exact ⟨rfl, B1⟩
set_option maxRecDepth 100000 in
set_option maxHeartbeats 1000000 in
theorem one_rsh2 (c a b k : Int) (i n : Nat) (fm : Int) (s : ByteArray) (w : World) (hK : Kinds w) (ho : InsOk c a b k)
    (hN : ∀ w, Kinds w → Calls Tryz.prog 102 #[.int .u16 c] w fun e w' => e = .returned (.tuple #[.string s, .bool true]) ∧ Below w.heap.size w w')
    (hF : ∀ w, Kinds w → Calls Tryz.prog 103 #[.int .u16 c] w fun e w' => e = .returned (.int .i64 fm) ∧ w' = w)
    (hT : ∀ w, Kinds w → Calls Tryz.prog 105 #[.agg #[.int .u16 c, .int .u8 a, .int .u8 b, .int .u32 k]] w fun e w' => e = .returned (.bool false) ∧ Below w.heap.size w w')
    (f : fm = 1)(m : s.toList = [114, 115, 104, 46, 107])(h : ¬ 32 ≤ k) :
    Calls Tryz.prog 88 #[.agg #[.int .u16 c, .int .u8 a, .int .u8 b, .int .u32 k], .int .i64 i, .int .i64 n] w fun e w' => e = .returned (.int .i64 0) ∧ Below w.heap.size w w' := by
  obtain ⟨c0, c1, a0, a1, b0, b1, k0, k1⟩ := ho
  subst f
  go_enter Tryz.func88, Tryz.ntmps88
  go_wp2_with fail
  refine (hN _ (hK.alloc _)).mono ?_
  rintro e w1 ⟨rfl, hb⟩
  have B1 := ((Below.refl _ w).alloc (Nat.le_refl _) (.cells #[.int .u16 c, .int .u8 a, .int .u8 b, .int .u32 k] 111)).trans (hb.mono (by simp))
  have x0 := (hb.cell (p := ⟨w.heap.size, 0, none⟩) (by simp)).trans (show _ = some (Value.int .u16 c) by simp)
  have x1 := (hb.cell (p := ⟨w.heap.size, 1, none⟩) (by simp)).trans (show _ = some (Value.int .u8 a) by simp)
  have x2 := (hb.cell (p := ⟨w.heap.size, 2, none⟩) (by simp)).trans (show _ = some (Value.int .u8 b) by simp)
  have x3 := (hb.cell (p := ⟨w.heap.size, 3, none⟩) (by simp)).trans (show _ = some (Value.int .u32 k) by simp)
  clear hb hN
  have K1 := hK.below B1 hK.pos
  clear hK
  go_wp2_with fail
  refine (hF _ K1).mono ?_
  rintro e w2 ⟨rfl, rfl⟩
  go_wp2_with fail
  refine (hT _ K1).mono ?_
  rintro e w3 ⟨rfl, b3⟩
  have y1 := (b3.cell (p := ⟨w.heap.size, 1, none⟩) (World.block_lt_of_cell? _ _ x1)).trans x1
  have y2 := (b3.cell (p := ⟨w.heap.size, 2, none⟩) (World.block_lt_of_cell? _ _ x2)).trans x2
  replace B1 := B1.trans (b3.mono B1.size)
  clear x0 x1 x2 x3 b3
  go_wp2_with fail
  go_ret
  exact ⟨rfl, B1⟩
set_option maxRecDepth 100000 in
set_option maxHeartbeats 1000000 in
theorem one_mem1 (c a b k : Int) (i n : Nat) (fm : Int) (s : ByteArray) (w : World) (hK : Kinds w) (ho : InsOk c a b k)
    (hN : ∀ w, Kinds w → Calls Tryz.prog 102 #[.int .u16 c] w fun e w' => e = .returned (.tuple #[.string s, .bool true]) ∧ Below w.heap.size w w')
    (hF : ∀ w, Kinds w → Calls Tryz.prog 103 #[.int .u16 c] w fun e w' => e = .returned (.int .i64 fm) ∧ w' = w)
    (f : fm = 3)(m1 : ¬ s.toList = [108, 100, 46, 97, 98, 115]) (m2 : ¬ s.toList = [100, 105, 118, 46, 107]) (m3 : ¬ s.toList = [108, 115, 104, 46, 107]) (m4 : ¬ s.toList = [114, 115, 104, 46, 107])(h : 16 ≤ k) :
    Calls Tryz.prog 88 #[.agg #[.int .u16 c, .int .u8 a, .int .u8 b, .int .u32 k], .int .i64 i, .int .i64 n] w fun e w' => e = .returned (.int .i64 145) ∧ Below w.heap.size w w' := by
  obtain ⟨c0, c1, a0, a1, b0, b1, k0, k1⟩ := ho
  subst f
  go_enter Tryz.func88, Tryz.ntmps88
  go_wp2_with fail
  refine (hN _ (hK.alloc _)).mono ?_
  rintro e w1 ⟨rfl, hb⟩
  have B1 := ((Below.refl _ w).alloc (Nat.le_refl _) (.cells #[.int .u16 c, .int .u8 a, .int .u8 b, .int .u32 k] 111)).trans (hb.mono (by simp))
  have x0 := (hb.cell (p := ⟨w.heap.size, 0, none⟩) (by simp)).trans (show _ = some (Value.int .u16 c) by simp)
  have x1 := (hb.cell (p := ⟨w.heap.size, 1, none⟩) (by simp)).trans (show _ = some (Value.int .u8 a) by simp)
  have x2 := (hb.cell (p := ⟨w.heap.size, 2, none⟩) (by simp)).trans (show _ = some (Value.int .u8 b) by simp)
  have x3 := (hb.cell (p := ⟨w.heap.size, 3, none⟩) (by simp)).trans (show _ = some (Value.int .u32 k) by simp)
  clear hb hN
  have K1 := hK.below B1 hK.pos
  clear hK
  go_wp2_with fail
  refine (hF _ K1).mono ?_
  rintro e w2 ⟨rfl, rfl⟩
  go_wp2_with fail
  go_ret
  exact ⟨rfl, B1⟩
set_option maxRecDepth 100000 in
set_option maxHeartbeats 1000000 in
theorem one_mem2 (c a b k : Int) (i n : Nat) (fm : Int) (s : ByteArray) (w : World) (hK : Kinds w) (ho : InsOk c a b k)
    (hN : ∀ w, Kinds w → Calls Tryz.prog 102 #[.int .u16 c] w fun e w' => e = .returned (.tuple #[.string s, .bool true]) ∧ Below w.heap.size w w')
    (hF : ∀ w, Kinds w → Calls Tryz.prog 103 #[.int .u16 c] w fun e w' => e = .returned (.int .i64 fm) ∧ w' = w)
    (hT : ∀ w, Kinds w → Calls Tryz.prog 105 #[.agg #[.int .u16 c, .int .u8 a, .int .u8 b, .int .u32 k]] w fun e w' => e = .returned (.bool false) ∧ Below w.heap.size w w')
    (f : fm = 3)(m1 : ¬ s.toList = [108, 100, 46, 97, 98, 115]) (m2 : ¬ s.toList = [100, 105, 118, 46, 107]) (m3 : ¬ s.toList = [108, 115, 104, 46, 107]) (m4 : ¬ s.toList = [114, 115, 104, 46, 107])(h : ¬ 16 ≤ k) :
    Calls Tryz.prog 88 #[.agg #[.int .u16 c, .int .u8 a, .int .u8 b, .int .u32 k], .int .i64 i, .int .i64 n] w fun e w' => e = .returned (.int .i64 0) ∧ Below w.heap.size w w' := by
  obtain ⟨c0, c1, a0, a1, b0, b1, k0, k1⟩ := ho
  subst f
  go_enter Tryz.func88, Tryz.ntmps88
  go_wp2_with fail
  refine (hN _ (hK.alloc _)).mono ?_
  rintro e w1 ⟨rfl, hb⟩
  have B1 := ((Below.refl _ w).alloc (Nat.le_refl _) (.cells #[.int .u16 c, .int .u8 a, .int .u8 b, .int .u32 k] 111)).trans (hb.mono (by simp))
  have x0 := (hb.cell (p := ⟨w.heap.size, 0, none⟩) (by simp)).trans (show _ = some (Value.int .u16 c) by simp)
  have x1 := (hb.cell (p := ⟨w.heap.size, 1, none⟩) (by simp)).trans (show _ = some (Value.int .u8 a) by simp)
  have x2 := (hb.cell (p := ⟨w.heap.size, 2, none⟩) (by simp)).trans (show _ = some (Value.int .u8 b) by simp)
  have x3 := (hb.cell (p := ⟨w.heap.size, 3, none⟩) (by simp)).trans (show _ = some (Value.int .u32 k) by simp)
  clear hb hN
  have K1 := hK.below B1 hK.pos
  clear hK
  go_wp2_with fail
  refine (hF _ K1).mono ?_
  rintro e w2 ⟨rfl, rfl⟩
  go_wp2_with fail
  refine (hT _ K1).mono ?_
  rintro e w3 ⟨rfl, b3⟩
  have y1 := (b3.cell (p := ⟨w.heap.size, 1, none⟩) (World.block_lt_of_cell? _ _ x1)).trans x1
  have y2 := (b3.cell (p := ⟨w.heap.size, 2, none⟩) (World.block_lt_of_cell? _ _ x2)).trans x2
  replace B1 := B1.trans (b3.mono B1.size)
  clear x0 x1 x2 x3 b3
  go_wp2_with fail
  go_ret
  exact ⟨rfl, B1⟩
set_option maxRecDepth 100000 in
set_option maxHeartbeats 1000000 in
theorem one_ja1 (c a b k : Int) (i n : Nat) (fm : Int) (s : ByteArray) (w : World) (hK : Kinds w) (ho : InsOk c a b k)
    (hN : ∀ w, Kinds w → Calls Tryz.prog 102 #[.int .u16 c] w fun e w' => e = .returned (.tuple #[.string s, .bool true]) ∧ Below w.heap.size w w')
    (hF : ∀ w, Kinds w → Calls Tryz.prog 103 #[.int .u16 c] w fun e w' => e = .returned (.int .i64 fm) ∧ w' = w)
    (W1 : ∀ w, Calls Tryz.prog 104 #[.int .u32 k, .int .i64 i, .int .i64 n] w fun e w' => e = .returned (.bool true) ∧ w' = w)
    (hT : ∀ w, Kinds w → Calls Tryz.prog 105 #[.agg #[.int .u16 c, .int .u8 a, .int .u8 b, .int .u32 k]] w fun e w' => e = .returned (.bool false) ∧ Below w.heap.size w w')
    (f : fm = 4)(m1 : ¬ s.toList = [108, 100, 46, 97, 98, 115]) (m2 : ¬ s.toList = [100, 105, 118, 46, 107]) (m3 : ¬ s.toList = [108, 115, 104, 46, 107]) (m4 : ¬ s.toList = [114, 115, 104, 46, 107]) :
    Calls Tryz.prog 88 #[.agg #[.int .u16 c, .int .u8 a, .int .u8 b, .int .u32 k], .int .i64 i, .int .i64 n] w fun e w' => e = .returned (.int .i64 0) ∧ Below w.heap.size w w' := by
  obtain ⟨c0, c1, a0, a1, b0, b1, k0, k1⟩ := ho
  subst f
  go_enter Tryz.func88, Tryz.ntmps88
  go_wp2_with fail
  refine (hN _ (hK.alloc _)).mono ?_
  rintro e w1 ⟨rfl, hb⟩
  have B1 := ((Below.refl _ w).alloc (Nat.le_refl _) (.cells #[.int .u16 c, .int .u8 a, .int .u8 b, .int .u32 k] 111)).trans (hb.mono (by simp))
  have x0 := (hb.cell (p := ⟨w.heap.size, 0, none⟩) (by simp)).trans (show _ = some (Value.int .u16 c) by simp)
  have x1 := (hb.cell (p := ⟨w.heap.size, 1, none⟩) (by simp)).trans (show _ = some (Value.int .u8 a) by simp)
  have x2 := (hb.cell (p := ⟨w.heap.size, 2, none⟩) (by simp)).trans (show _ = some (Value.int .u8 b) by simp)
  have x3 := (hb.cell (p := ⟨w.heap.size, 3, none⟩) (by simp)).trans (show _ = some (Value.int .u32 k) by simp)
  clear hb hN
  have K1 := hK.below B1 hK.pos
  clear hK
  go_wp2_with fail
  refine (hF _ K1).mono ?_
  rintro e w2 ⟨rfl, rfl⟩
  go_wp2_with fail
  refine (W1 _).mono ?_
  rintro e w4 ⟨rfl, rfl⟩
  go_wp2_with fail
  refine (hT _ K1).mono ?_
  rintro e w3 ⟨rfl, b3⟩
  have y1 := (b3.cell (p := ⟨w.heap.size, 1, none⟩) (World.block_lt_of_cell? _ _ x1)).trans x1
  have y2 := (b3.cell (p := ⟨w.heap.size, 2, none⟩) (World.block_lt_of_cell? _ _ x2)).trans x2
  replace B1 := B1.trans (b3.mono B1.size)
  clear x0 x1 x2 x3 b3
  go_wp2_with fail
  go_ret
  exact ⟨rfl, B1⟩
set_option maxRecDepth 100000 in
set_option maxHeartbeats 1000000 in
theorem one_ja2 (c a b k : Int) (i n : Nat) (fm : Int) (s : ByteArray) (w : World) (hK : Kinds w) (ho : InsOk c a b k)
    (hN : ∀ w, Kinds w → Calls Tryz.prog 102 #[.int .u16 c] w fun e w' => e = .returned (.tuple #[.string s, .bool true]) ∧ Below w.heap.size w w')
    (hF : ∀ w, Kinds w → Calls Tryz.prog 103 #[.int .u16 c] w fun e w' => e = .returned (.int .i64 fm) ∧ w' = w)
    (W1 : ∀ w, Calls Tryz.prog 104 #[.int .u32 k, .int .i64 i, .int .i64 n] w fun e w' => e = .returned (.bool false) ∧ w' = w)
    (f : fm = 4)(m1 : ¬ s.toList = [108, 100, 46, 97, 98, 115]) (m2 : ¬ s.toList = [100, 105, 118, 46, 107]) (m3 : ¬ s.toList = [108, 115, 104, 46, 107]) (m4 : ¬ s.toList = [114, 115, 104, 46, 107]) :
    Calls Tryz.prog 88 #[.agg #[.int .u16 c, .int .u8 a, .int .u8 b, .int .u32 k], .int .i64 i, .int .i64 n] w fun e w' => e = .returned (.int .i64 146) ∧ Below w.heap.size w w' := by
  obtain ⟨c0, c1, a0, a1, b0, b1, k0, k1⟩ := ho
  subst f
  go_enter Tryz.func88, Tryz.ntmps88
  go_wp2_with fail
  refine (hN _ (hK.alloc _)).mono ?_
  rintro e w1 ⟨rfl, hb⟩
  have B1 := ((Below.refl _ w).alloc (Nat.le_refl _) (.cells #[.int .u16 c, .int .u8 a, .int .u8 b, .int .u32 k] 111)).trans (hb.mono (by simp))
  have x0 := (hb.cell (p := ⟨w.heap.size, 0, none⟩) (by simp)).trans (show _ = some (Value.int .u16 c) by simp)
  have x1 := (hb.cell (p := ⟨w.heap.size, 1, none⟩) (by simp)).trans (show _ = some (Value.int .u8 a) by simp)
  have x2 := (hb.cell (p := ⟨w.heap.size, 2, none⟩) (by simp)).trans (show _ = some (Value.int .u8 b) by simp)
  have x3 := (hb.cell (p := ⟨w.heap.size, 3, none⟩) (by simp)).trans (show _ = some (Value.int .u32 k) by simp)
  clear hb hN
  have K1 := hK.below B1 hK.pos
  clear hK
  go_wp2_with fail
  refine (hF _ K1).mono ?_
  rintro e w2 ⟨rfl, rfl⟩
  go_wp2_with fail
  refine (W1 _).mono ?_
  rintro e w4 ⟨rfl, rfl⟩
  go_wp2_with fail
  go_ret
  exact ⟨rfl, B1⟩
set_option maxRecDepth 100000 in
set_option maxHeartbeats 1000000 in
theorem one_t1 (c a b k : Int) (i n : Nat) (fm : Int) (s : ByteArray) (w : World) (hK : Kinds w) (ho : InsOk c a b k)
    (hN : ∀ w, Kinds w → Calls Tryz.prog 102 #[.int .u16 c] w fun e w' => e = .returned (.tuple #[.string s, .bool true]) ∧ Below w.heap.size w w')
    (hF : ∀ w, Kinds w → Calls Tryz.prog 103 #[.int .u16 c] w fun e w' => e = .returned (.int .i64 fm) ∧ w' = w)
    (hT : ∀ w, Kinds w → Calls Tryz.prog 105 #[.agg #[.int .u16 c, .int .u8 a, .int .u8 b, .int .u32 k]] w fun e w' => e = .returned (.bool true) ∧ Below w.heap.size w w')
    (W2 : ∀ w, Calls Tryz.prog 104 #[.int .u32 a, .int .i64 i, .int .i64 n] w fun e w' => e = .returned (.bool true) ∧ w' = w)
    (W3 : ∀ w, Calls Tryz.prog 104 #[.int .u32 b, .int .i64 i, .int .i64 n] w fun e w' => e = .returned (.bool true) ∧ w' = w)
    (f : fm = 5)(m1 : ¬ s.toList = [108, 100, 46, 97, 98, 115]) (m2 : ¬ s.toList = [100, 105, 118, 46, 107]) (m3 : ¬ s.toList = [108, 115, 104, 46, 107]) (m4 : ¬ s.toList = [114, 115, 104, 46, 107])  :
    Calls Tryz.prog 88 #[.agg #[.int .u16 c, .int .u8 a, .int .u8 b, .int .u32 k], .int .i64 i, .int .i64 n] w fun e w' => e = .returned (.int .i64 0) ∧ Below w.heap.size w w' := by
  obtain ⟨c0, c1, a0, a1, b0, b1, k0, k1⟩ := ho
  subst f
  go_enter Tryz.func88, Tryz.ntmps88
  go_wp2_with fail
  refine (hN _ (hK.alloc _)).mono ?_
  rintro e w1 ⟨rfl, hb⟩
  have B1 := ((Below.refl _ w).alloc (Nat.le_refl _) (.cells #[.int .u16 c, .int .u8 a, .int .u8 b, .int .u32 k] 111)).trans (hb.mono (by simp))
  have x0 := (hb.cell (p := ⟨w.heap.size, 0, none⟩) (by simp)).trans (show _ = some (Value.int .u16 c) by simp)
  have x1 := (hb.cell (p := ⟨w.heap.size, 1, none⟩) (by simp)).trans (show _ = some (Value.int .u8 a) by simp)
  have x2 := (hb.cell (p := ⟨w.heap.size, 2, none⟩) (by simp)).trans (show _ = some (Value.int .u8 b) by simp)
  have x3 := (hb.cell (p := ⟨w.heap.size, 3, none⟩) (by simp)).trans (show _ = some (Value.int .u32 k) by simp)
  clear hb hN
  have K1 := hK.below B1 hK.pos
  clear hK
  go_wp2_with fail
  refine (hF _ K1).mono ?_
  rintro e w2 ⟨rfl, rfl⟩
  go_wp2_with fail
  refine (hT _ K1).mono ?_
  rintro e w3 ⟨rfl, b3⟩
  have y1 := (b3.cell (p := ⟨w.heap.size, 1, none⟩) (World.block_lt_of_cell? _ _ x1)).trans x1
  have y2 := (b3.cell (p := ⟨w.heap.size, 2, none⟩) (World.block_lt_of_cell? _ _ x2)).trans x2
  replace B1 := B1.trans (b3.mono B1.size)
  clear x0 x1 x2 x3 b3
  go_wp2_with fail
  refine (W2 _).mono ?_
  rintro e w4 ⟨rfl, rfl⟩
  go_wp2_with fail
  refine (W3 _).mono ?_
  rintro e w4 ⟨rfl, rfl⟩
  go_wp2_with fail
  go_ret
  exact ⟨rfl, B1⟩
set_option maxRecDepth 100000 in
set_option maxHeartbeats 1000000 in
theorem one_t2 (c a b k : Int) (i n : Nat) (fm : Int) (s : ByteArray) (w : World) (hK : Kinds w) (ho : InsOk c a b k)
    (hN : ∀ w, Kinds w → Calls Tryz.prog 102 #[.int .u16 c] w fun e w' => e = .returned (.tuple #[.string s, .bool true]) ∧ Below w.heap.size w w')
    (hF : ∀ w, Kinds w → Calls Tryz.prog 103 #[.int .u16 c] w fun e w' => e = .returned (.int .i64 fm) ∧ w' = w)
    (hT : ∀ w, Kinds w → Calls Tryz.prog 105 #[.agg #[.int .u16 c, .int .u8 a, .int .u8 b, .int .u32 k]] w fun e w' => e = .returned (.bool true) ∧ Below w.heap.size w w')
    (W2 : ∀ w, Calls Tryz.prog 104 #[.int .u32 a, .int .i64 i, .int .i64 n] w fun e w' => e = .returned (.bool true) ∧ w' = w)
    (W3 : ∀ w, Calls Tryz.prog 104 #[.int .u32 b, .int .i64 i, .int .i64 n] w fun e w' => e = .returned (.bool false) ∧ w' = w)
    (f : fm = 5)(m1 : ¬ s.toList = [108, 100, 46, 97, 98, 115]) (m2 : ¬ s.toList = [100, 105, 118, 46, 107]) (m3 : ¬ s.toList = [108, 115, 104, 46, 107]) (m4 : ¬ s.toList = [114, 115, 104, 46, 107])  :
    Calls Tryz.prog 88 #[.agg #[.int .u16 c, .int .u8 a, .int .u8 b, .int .u32 k], .int .i64 i, .int .i64 n] w fun e w' => e = .returned (.int .i64 146) ∧ Below w.heap.size w w' := by
  obtain ⟨c0, c1, a0, a1, b0, b1, k0, k1⟩ := ho
  subst f
  go_enter Tryz.func88, Tryz.ntmps88
  go_wp2_with fail
  refine (hN _ (hK.alloc _)).mono ?_
  rintro e w1 ⟨rfl, hb⟩
  have B1 := ((Below.refl _ w).alloc (Nat.le_refl _) (.cells #[.int .u16 c, .int .u8 a, .int .u8 b, .int .u32 k] 111)).trans (hb.mono (by simp))
  have x0 := (hb.cell (p := ⟨w.heap.size, 0, none⟩) (by simp)).trans (show _ = some (Value.int .u16 c) by simp)
  have x1 := (hb.cell (p := ⟨w.heap.size, 1, none⟩) (by simp)).trans (show _ = some (Value.int .u8 a) by simp)
  have x2 := (hb.cell (p := ⟨w.heap.size, 2, none⟩) (by simp)).trans (show _ = some (Value.int .u8 b) by simp)
  have x3 := (hb.cell (p := ⟨w.heap.size, 3, none⟩) (by simp)).trans (show _ = some (Value.int .u32 k) by simp)
  clear hb hN
  have K1 := hK.below B1 hK.pos
  clear hK
  go_wp2_with fail
  refine (hF _ K1).mono ?_
  rintro e w2 ⟨rfl, rfl⟩
  go_wp2_with fail
  refine (hT _ K1).mono ?_
  rintro e w3 ⟨rfl, b3⟩
  have y1 := (b3.cell (p := ⟨w.heap.size, 1, none⟩) (World.block_lt_of_cell? _ _ x1)).trans x1
  have y2 := (b3.cell (p := ⟨w.heap.size, 2, none⟩) (World.block_lt_of_cell? _ _ x2)).trans x2
  replace B1 := B1.trans (b3.mono B1.size)
  clear x0 x1 x2 x3 b3
  go_wp2_with fail
  refine (W2 _).mono ?_
  rintro e w4 ⟨rfl, rfl⟩
  go_wp2_with fail
  refine (W3 _).mono ?_
  rintro e w4 ⟨rfl, rfl⟩
  go_wp2_with fail
  go_ret
  exact ⟨rfl, B1⟩
set_option maxRecDepth 100000 in
set_option maxHeartbeats 1000000 in
theorem one_t3 (c a b k : Int) (i n : Nat) (fm : Int) (s : ByteArray) (w : World) (hK : Kinds w) (ho : InsOk c a b k)
    (hN : ∀ w, Kinds w → Calls Tryz.prog 102 #[.int .u16 c] w fun e w' => e = .returned (.tuple #[.string s, .bool true]) ∧ Below w.heap.size w w')
    (hF : ∀ w, Kinds w → Calls Tryz.prog 103 #[.int .u16 c] w fun e w' => e = .returned (.int .i64 fm) ∧ w' = w)
    (hT : ∀ w, Kinds w → Calls Tryz.prog 105 #[.agg #[.int .u16 c, .int .u8 a, .int .u8 b, .int .u32 k]] w fun e w' => e = .returned (.bool true) ∧ Below w.heap.size w w')
    (W2 : ∀ w, Calls Tryz.prog 104 #[.int .u32 a, .int .i64 i, .int .i64 n] w fun e w' => e = .returned (.bool false) ∧ w' = w)
    (f : fm = 5)(m1 : ¬ s.toList = [108, 100, 46, 97, 98, 115]) (m2 : ¬ s.toList = [100, 105, 118, 46, 107]) (m3 : ¬ s.toList = [108, 115, 104, 46, 107]) (m4 : ¬ s.toList = [114, 115, 104, 46, 107]) :
    Calls Tryz.prog 88 #[.agg #[.int .u16 c, .int .u8 a, .int .u8 b, .int .u32 k], .int .i64 i, .int .i64 n] w fun e w' => e = .returned (.int .i64 146) ∧ Below w.heap.size w w' := by
  obtain ⟨c0, c1, a0, a1, b0, b1, k0, k1⟩ := ho
  subst f
  go_enter Tryz.func88, Tryz.ntmps88
  go_wp2_with fail
  refine (hN _ (hK.alloc _)).mono ?_
  rintro e w1 ⟨rfl, hb⟩
  have B1 := ((Below.refl _ w).alloc (Nat.le_refl _) (.cells #[.int .u16 c, .int .u8 a, .int .u8 b, .int .u32 k] 111)).trans (hb.mono (by simp))
  have x0 := (hb.cell (p := ⟨w.heap.size, 0, none⟩) (by simp)).trans (show _ = some (Value.int .u16 c) by simp)
  have x1 := (hb.cell (p := ⟨w.heap.size, 1, none⟩) (by simp)).trans (show _ = some (Value.int .u8 a) by simp)
  have x2 := (hb.cell (p := ⟨w.heap.size, 2, none⟩) (by simp)).trans (show _ = some (Value.int .u8 b) by simp)
  have x3 := (hb.cell (p := ⟨w.heap.size, 3, none⟩) (by simp)).trans (show _ = some (Value.int .u32 k) by simp)
  clear hb hN
  have K1 := hK.below B1 hK.pos
  clear hK
  go_wp2_with fail
  refine (hF _ K1).mono ?_
  rintro e w2 ⟨rfl, rfl⟩
  go_wp2_with fail
  refine (hT _ K1).mono ?_
  rintro e w3 ⟨rfl, b3⟩
  have y1 := (b3.cell (p := ⟨w.heap.size, 1, none⟩) (World.block_lt_of_cell? _ _ x1)).trans x1
  have y2 := (b3.cell (p := ⟨w.heap.size, 2, none⟩) (World.block_lt_of_cell? _ _ x2)).trans x2
  replace B1 := B1.trans (b3.mono B1.size)
  clear x0 x1 x2 x3 b3
  go_wp2_with fail
  refine (W2 _).mono ?_
  rintro e w4 ⟨rfl, rfl⟩
  go_wp2_with fail
  go_ret
  exact ⟨rfl, B1⟩
set_option maxRecDepth 100000 in
set_option maxHeartbeats 1000000 in
theorem one_x1 (c a b k : Int) (i n : Nat) (fm : Int) (s : ByteArray) (w : World) (hK : Kinds w) (ho : InsOk c a b k)
    (hN : ∀ w, Kinds w → Calls Tryz.prog 102 #[.int .u16 c] w fun e w' => e = .returned (.tuple #[.string s, .bool true]) ∧ Below w.heap.size w w')
    (hF : ∀ w, Kinds w → Calls Tryz.prog 103 #[.int .u16 c] w fun e w' => e = .returned (.int .i64 fm) ∧ w' = w)
    (hT : ∀ w, Kinds w → Calls Tryz.prog 105 #[.agg #[.int .u16 c, .int .u8 a, .int .u8 b, .int .u32 k]] w fun e w' => e = .returned (.bool true) ∧ Below w.heap.size w w')
    (W2 : ∀ w, Calls Tryz.prog 104 #[.int .u32 a, .int .i64 i, .int .i64 n] w fun e w' => e = .returned (.bool true) ∧ w' = w)
    (W3 : ∀ w, Calls Tryz.prog 104 #[.int .u32 b, .int .i64 i, .int .i64 n] w fun e w' => e = .returned (.bool true) ∧ w' = w)
    (f : fm = 6)(m1 : ¬ s.toList = [108, 100, 46, 97, 98, 115]) (m2 : ¬ s.toList = [100, 105, 118, 46, 107]) (m3 : ¬ s.toList = [108, 115, 104, 46, 107]) (m4 : ¬ s.toList = [114, 115, 104, 46, 107])  :
    Calls Tryz.prog 88 #[.agg #[.int .u16 c, .int .u8 a, .int .u8 b, .int .u32 k], .int .i64 i, .int .i64 n] w fun e w' => e = .returned (.int .i64 0) ∧ Below w.heap.size w w' := by
  obtain ⟨c0, c1, a0, a1, b0, b1, k0, k1⟩ := ho
  subst f
  go_enter Tryz.func88, Tryz.ntmps88
  go_wp2_with fail
  refine (hN _ (hK.alloc _)).mono ?_
  rintro e w1 ⟨rfl, hb⟩
  have B1 := ((Below.refl _ w).alloc (Nat.le_refl _) (.cells #[.int .u16 c, .int .u8 a, .int .u8 b, .int .u32 k] 111)).trans (hb.mono (by simp))
  have x0 := (hb.cell (p := ⟨w.heap.size, 0, none⟩) (by simp)).trans (show _ = some (Value.int .u16 c) by simp)
  have x1 := (hb.cell (p := ⟨w.heap.size, 1, none⟩) (by simp)).trans (show _ = some (Value.int .u8 a) by simp)
  have x2 := (hb.cell (p := ⟨w.heap.size, 2, none⟩) (by simp)).trans (show _ = some (Value.int .u8 b) by simp)
  have x3 := (hb.cell (p := ⟨w.heap.size, 3, none⟩) (by simp)).trans (show _ = some (Value.int .u32 k) by simp)
  clear hb hN
  have K1 := hK.below B1 hK.pos
  clear hK
  go_wp2_with fail
  refine (hF _ K1).mono ?_
  rintro e w2 ⟨rfl, rfl⟩
  go_wp2_with fail
  refine (hT _ K1).mono ?_
  rintro e w3 ⟨rfl, b3⟩
  have y1 := (b3.cell (p := ⟨w.heap.size, 1, none⟩) (World.block_lt_of_cell? _ _ x1)).trans x1
  have y2 := (b3.cell (p := ⟨w.heap.size, 2, none⟩) (World.block_lt_of_cell? _ _ x2)).trans x2
  replace B1 := B1.trans (b3.mono B1.size)
  clear x0 x1 x2 x3 b3
  go_wp2_with fail
  refine (W2 _).mono ?_
  rintro e w4 ⟨rfl, rfl⟩
  go_wp2_with fail
  refine (W3 _).mono ?_
  rintro e w4 ⟨rfl, rfl⟩
  go_wp2_with fail
  go_ret
  exact ⟨rfl, B1⟩
set_option maxRecDepth 100000 in
set_option maxHeartbeats 1000000 in
theorem one_x2 (c a b k : Int) (i n : Nat) (fm : Int) (s : ByteArray) (w : World) (hK : Kinds w) (ho : InsOk c a b k)
    (hN : ∀ w, Kinds w → Calls Tryz.prog 102 #[.int .u16 c] w fun e w' => e = .returned (.tuple #[.string s, .bool true]) ∧ Below w.heap.size w w')
    (hF : ∀ w, Kinds w → Calls Tryz.prog 103 #[.int .u16 c] w fun e w' => e = .returned (.int .i64 fm) ∧ w' = w)
    (hT : ∀ w, Kinds w → Calls Tryz.prog 105 #[.agg #[.int .u16 c, .int .u8 a, .int .u8 b, .int .u32 k]] w fun e w' => e = .returned (.bool true) ∧ Below w.heap.size w w')
    (W2 : ∀ w, Calls Tryz.prog 104 #[.int .u32 a, .int .i64 i, .int .i64 n] w fun e w' => e = .returned (.bool true) ∧ w' = w)
    (W3 : ∀ w, Calls Tryz.prog 104 #[.int .u32 b, .int .i64 i, .int .i64 n] w fun e w' => e = .returned (.bool false) ∧ w' = w)
    (f : fm = 6)(m1 : ¬ s.toList = [108, 100, 46, 97, 98, 115]) (m2 : ¬ s.toList = [100, 105, 118, 46, 107]) (m3 : ¬ s.toList = [108, 115, 104, 46, 107]) (m4 : ¬ s.toList = [114, 115, 104, 46, 107])  :
    Calls Tryz.prog 88 #[.agg #[.int .u16 c, .int .u8 a, .int .u8 b, .int .u32 k], .int .i64 i, .int .i64 n] w fun e w' => e = .returned (.int .i64 146) ∧ Below w.heap.size w w' := by
  obtain ⟨c0, c1, a0, a1, b0, b1, k0, k1⟩ := ho
  subst f
  go_enter Tryz.func88, Tryz.ntmps88
  go_wp2_with fail
  refine (hN _ (hK.alloc _)).mono ?_
  rintro e w1 ⟨rfl, hb⟩
  have B1 := ((Below.refl _ w).alloc (Nat.le_refl _) (.cells #[.int .u16 c, .int .u8 a, .int .u8 b, .int .u32 k] 111)).trans (hb.mono (by simp))
  have x0 := (hb.cell (p := ⟨w.heap.size, 0, none⟩) (by simp)).trans (show _ = some (Value.int .u16 c) by simp)
  have x1 := (hb.cell (p := ⟨w.heap.size, 1, none⟩) (by simp)).trans (show _ = some (Value.int .u8 a) by simp)
  have x2 := (hb.cell (p := ⟨w.heap.size, 2, none⟩) (by simp)).trans (show _ = some (Value.int .u8 b) by simp)
  have x3 := (hb.cell (p := ⟨w.heap.size, 3, none⟩) (by simp)).trans (show _ = some (Value.int .u32 k) by simp)
  clear hb hN
  have K1 := hK.below B1 hK.pos
  clear hK
  go_wp2_with fail
  refine (hF _ K1).mono ?_
  rintro e w2 ⟨rfl, rfl⟩
  go_wp2_with fail
  refine (hT _ K1).mono ?_
  rintro e w3 ⟨rfl, b3⟩
  have y1 := (b3.cell (p := ⟨w.heap.size, 1, none⟩) (World.block_lt_of_cell? _ _ x1)).trans x1
  have y2 := (b3.cell (p := ⟨w.heap.size, 2, none⟩) (World.block_lt_of_cell? _ _ x2)).trans x2
  replace B1 := B1.trans (b3.mono B1.size)
  clear x0 x1 x2 x3 b3
  go_wp2_with fail
  refine (W2 _).mono ?_
  rintro e w4 ⟨rfl, rfl⟩
  go_wp2_with fail
  refine (W3 _).mono ?_
  rintro e w4 ⟨rfl, rfl⟩
  go_wp2_with fail
  go_ret
  exact ⟨rfl, B1⟩
set_option maxRecDepth 100000 in
set_option maxHeartbeats 1000000 in
theorem one_x3 (c a b k : Int) (i n : Nat) (fm : Int) (s : ByteArray) (w : World) (hK : Kinds w) (ho : InsOk c a b k)
    (hN : ∀ w, Kinds w → Calls Tryz.prog 102 #[.int .u16 c] w fun e w' => e = .returned (.tuple #[.string s, .bool true]) ∧ Below w.heap.size w w')
    (hF : ∀ w, Kinds w → Calls Tryz.prog 103 #[.int .u16 c] w fun e w' => e = .returned (.int .i64 fm) ∧ w' = w)
    (hT : ∀ w, Kinds w → Calls Tryz.prog 105 #[.agg #[.int .u16 c, .int .u8 a, .int .u8 b, .int .u32 k]] w fun e w' => e = .returned (.bool true) ∧ Below w.heap.size w w')
    (W2 : ∀ w, Calls Tryz.prog 104 #[.int .u32 a, .int .i64 i, .int .i64 n] w fun e w' => e = .returned (.bool false) ∧ w' = w)
    (f : fm = 6)(m1 : ¬ s.toList = [108, 100, 46, 97, 98, 115]) (m2 : ¬ s.toList = [100, 105, 118, 46, 107]) (m3 : ¬ s.toList = [108, 115, 104, 46, 107]) (m4 : ¬ s.toList = [114, 115, 104, 46, 107]) :
    Calls Tryz.prog 88 #[.agg #[.int .u16 c, .int .u8 a, .int .u8 b, .int .u32 k], .int .i64 i, .int .i64 n] w fun e w' => e = .returned (.int .i64 146) ∧ Below w.heap.size w w' := by
  obtain ⟨c0, c1, a0, a1, b0, b1, k0, k1⟩ := ho
  subst f
  go_enter Tryz.func88, Tryz.ntmps88
  go_wp2_with fail
  refine (hN _ (hK.alloc _)).mono ?_
  rintro e w1 ⟨rfl, hb⟩
  have B1 := ((Below.refl _ w).alloc (Nat.le_refl _) (.cells #[.int .u16 c, .int .u8 a, .int .u8 b, .int .u32 k] 111)).trans (hb.mono (by simp))
  have x0 := (hb.cell (p := ⟨w.heap.size, 0, none⟩) (by simp)).trans (show _ = some (Value.int .u16 c) by simp)
  have x1 := (hb.cell (p := ⟨w.heap.size, 1, none⟩) (by simp)).trans (show _ = some (Value.int .u8 a) by simp)
  have x2 := (hb.cell (p := ⟨w.heap.size, 2, none⟩) (by simp)).trans (show _ = some (Value.int .u8 b) by simp)
  have x3 := (hb.cell (p := ⟨w.heap.size, 3, none⟩) (by simp)).trans (show _ = some (Value.int .u32 k) by simp)
  clear hb hN
  have K1 := hK.below B1 hK.pos
  clear hK
  go_wp2_with fail
  refine (hF _ K1).mono ?_
  rintro e w2 ⟨rfl, rfl⟩
  go_wp2_with fail
  refine (hT _ K1).mono ?_
  rintro e w3 ⟨rfl, b3⟩
  have y1 := (b3.cell (p := ⟨w.heap.size, 1, none⟩) (World.block_lt_of_cell? _ _ x1)).trans x1
  have y2 := (b3.cell (p := ⟨w.heap.size, 2, none⟩) (World.block_lt_of_cell? _ _ x2)).trans x2
  replace B1 := B1.trans (b3.mono B1.size)
  clear x0 x1 x2 x3 b3
  go_wp2_with fail
  refine (W2 _).mono ?_
  rintro e w4 ⟨rfl, rfl⟩
  go_wp2_with fail
  go_ret
  exact ⟨rfl, B1⟩
set_option maxRecDepth 100000 in
set_option maxHeartbeats 1000000 in
theorem one_un (c a b k : Int) (i n : Nat) (fm : Int) (s : ByteArray) (w : World) (hK : Kinds w) (ho : InsOk c a b k)
    (hN : ∀ w, Kinds w → Calls Tryz.prog 102 #[.int .u16 c] w fun e w' => e = .returned (.tuple #[.string s, .bool true]) ∧ Below w.heap.size w w')
    (hF : ∀ w, Kinds w → Calls Tryz.prog 103 #[.int .u16 c] w fun e w' => e = .returned (.int .i64 fm) ∧ w' = w)
    (hT : ∀ w, Kinds w → Calls Tryz.prog 105 #[.agg #[.int .u16 c, .int .u8 a, .int .u8 b, .int .u32 k]] w fun e w' => e = .returned (.bool false) ∧ Below w.heap.size w w')
    (f2 : ¬ fm = 2) (f3 : ¬ fm = 3) (f4 : ¬ fm = 4) (f5 : ¬ fm = 5) (f6 : ¬ fm = 6)(m1 : ¬ s.toList = [108, 100, 46, 97, 98, 115]) (m2 : ¬ s.toList = [100, 105, 118, 46, 107]) (m3 : ¬ s.toList = [108, 115, 104, 46, 107]) (m4 : ¬ s.toList = [114, 115, 104, 46, 107]) :
    Calls Tryz.prog 88 #[.agg #[.int .u16 c, .int .u8 a, .int .u8 b, .int .u32 k], .int .i64 i, .int .i64 n] w fun e w' => e = .returned (.int .i64 0) ∧ Below w.heap.size w w' := by
  obtain ⟨c0, c1, a0, a1, b0, b1, k0, k1⟩ := ho
  go_enter Tryz.func88, Tryz.ntmps88
  go_wp2_with fail
  refine (hN _ (hK.alloc _)).mono ?_
  rintro e w1 ⟨rfl, hb⟩
  have B1 := ((Below.refl _ w).alloc (Nat.le_refl _) (.cells #[.int .u16 c, .int .u8 a, .int .u8 b, .int .u32 k] 111)).trans (hb.mono (by simp))
  have x0 := (hb.cell (p := ⟨w.heap.size, 0, none⟩) (by simp)).trans (show _ = some (Value.int .u16 c) by simp)
  have x1 := (hb.cell (p := ⟨w.heap.size, 1, none⟩) (by simp)).trans (show _ = some (Value.int .u8 a) by simp)
  have x2 := (hb.cell (p := ⟨w.heap.size, 2, none⟩) (by simp)).trans (show _ = some (Value.int .u8 b) by simp)
  have x3 := (hb.cell (p := ⟨w.heap.size, 3, none⟩) (by simp)).trans (show _ = some (Value.int .u32 k) by simp)
  clear hb hN
  have K1 := hK.below B1 hK.pos
  clear hK
  go_wp2_with fail
  refine (hF _ K1).mono ?_
  rintro e w2 ⟨rfl, rfl⟩
  go_wp2_with fail
  refine (hT _ K1).mono ?_
  rintro e w3 ⟨rfl, b3⟩
  have y1 := (b3.cell (p := ⟨w.heap.size, 1, none⟩) (World.block_lt_of_cell? _ _ x1)).trans x1
  have y2 := (b3.cell (p := ⟨w.heap.size, 2, none⟩) (World.block_lt_of_cell? _ _ x2)).trans x2
  replace B1 := B1.trans (b3.mono B1.size)
  clear x0 x1 x2 x3 b3
  go_wp2_with fail
  go_ret
  exact ⟨rfl, B1⟩
end Go.Proofs.YtelfdpcenplhjaaGreatDoor
