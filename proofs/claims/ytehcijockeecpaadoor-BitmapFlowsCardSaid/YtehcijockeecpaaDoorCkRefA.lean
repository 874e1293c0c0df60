/-
  The reference's One: why an instruction may not stand at a place; its returns.
-/
import Derived.Test.YtehcijockeecpaaDoorCkN
import Derived.Test.YtehcijockeecpaaDoorHK
set_option linter.unusedVariables false
namespace Go.Proofs.YtehcijockeecpaaDoor
open Go.RowKit

set_option maxHeartbeats 1000000 in
theorem refret_any (q : Ins) (w : World) :
    Calls Tryd.prog 25 #[valI q] w fun e w' => e = .returned (.bool (retI q)) ∧ Below w.heap.size w w' := by
  obtain ⟨c, a, b, k⟩ := q
  simp only [valI, insV, retI]
  by_cases h6 : c = 6
  · subst h6
    go_enter Tryd.func25, Tryd.ntmps25
    go_wp2_with fail
    go_ret
    exact ⟨by simp, (Below.refl _ _).alloc (Nat.le_refl _) _⟩
  · by_cases h22 : c = 22
    · subst h22
      go_enter Tryd.func25, Tryd.ntmps25
      go_wp2_with fail
      go_ret
      exact ⟨by simp, (Below.refl _ _).alloc (Nat.le_refl _) _⟩
    · go_enter Tryd.func25, Tryd.ntmps25
      go_wp2_with fail
      go_ret
      exact ⟨by simp [h6, h22], (Below.refl _ _).alloc (Nat.le_refl _) _⟩

set_option maxRecDepth 100000 in
set_option maxHeartbeats 2000000 in
theorem rone_ld1 (c a b k : Int) (i n : Nat) (fm : Int) (s : ByteArray) (w : World) (ho : InsOk c a b k) (hin : i < n) (hn : n ≤ 1000)
    (hN : ∀ w, Calls Tryd.prog 39 #[.int .u16 c] w fun e w' => e = .returned (.tuple #[.string s, .bool true]) ∧ Below w.heap.size w w')
    (f : fm = 2)(m : s.toList = [108, 100, 46, 97, 98, 115])(h : ¬ k % 4 = 0) (h' : ¬ k.tmod 4 = 0) :
    Calls Tryd.prog 24 #[.agg #[.int .u16 c, .int .u8 a, .int .u8 b, .int .u32 k], .int .i64 i, .int .i64 n] w fun e w' => e = .returned (.int .i64 142) ∧ Below w.heap.size w w' := by
  obtain ⟨c0, c1, a0, a1, b0, b1, k0, k1⟩ := ho
  subst f
  have hn0 : (0 : Int) < n := by omega
  by_cases hl : (i : Int) < (n : Int) - 1
  · have hq : (0 : Int) ≤ (n : Int) - 1 - i := by omega
    go_enter Tryd.func24, Tryd.ntmps24
    go_wp2_with fail
    refine (hN _).mono ?_
    rintro e w1 ⟨rfl, hb⟩
    have B1 := ((Below.refl _ w).alloc (Nat.le_refl _) (.cells #[.int .u16 c, .int .u8 a, .int .u8 b, .int .u32 k] 51)).trans (hb.mono (by simp))
    have x0 := (hb.cell (p := ⟨w.heap.size, 0, none⟩) (by simp)).trans (show _ = some (Value.int .u16 c) by simp)
    have x1 := (hb.cell (p := ⟨w.heap.size, 1, none⟩) (by simp)).trans (show _ = some (Value.int .u8 a) by simp)
    have x2 := (hb.cell (p := ⟨w.heap.size, 2, none⟩) (by simp)).trans (show _ = some (Value.int .u8 b) by simp)
    have x3 := (hb.cell (p := ⟨w.heap.size, 3, none⟩) (by simp)).trans (show _ = some (Value.int .u32 k) by simp)
    clear hb hN
    go_wp2_with fail
    go_ret
    exact ⟨rfl, B1⟩
  · have hq : (n : Int) - 1 - i = 0 := by omega
    go_enter Tryd.func24, Tryd.ntmps24
    go_wp2_with fail
    refine (hN _).mono ?_
    rintro e w1 ⟨rfl, hb⟩
    have B1 := ((Below.refl _ w).alloc (Nat.le_refl _) (.cells #[.int .u16 c, .int .u8 a, .int .u8 b, .int .u32 k] 51)).trans (hb.mono (by simp))
    have x0 := (hb.cell (p := ⟨w.heap.size, 0, none⟩) (by simp)).trans (show _ = some (Value.int .u16 c) by simp)
    have x1 := (hb.cell (p := ⟨w.heap.size, 1, none⟩) (by simp)).trans (show _ = some (Value.int .u8 a) by simp)
    have x2 := (hb.cell (p := ⟨w.heap.size, 2, none⟩) (by simp)).trans (show _ = some (Value.int .u8 b) by simp)
    have x3 := (hb.cell (p := ⟨w.heap.size, 3, none⟩) (by simp)).trans (show _ = some (Value.int .u32 k) by simp)
    clear hb hN
    go_wp2_with fail
    go_ret
    exact ⟨rfl, B1⟩

set_option maxRecDepth 100000 in
set_option maxHeartbeats 2000000 in
theorem rone_ld2 (c a b k : Int) (i n : Nat) (fm : Int) (s : ByteArray) (w : World) (ho : InsOk c a b k) (hin : i < n) (hn : n ≤ 1000)
    (hN : ∀ w, Calls Tryd.prog 39 #[.int .u16 c] w fun e w' => e = .returned (.tuple #[.string s, .bool true]) ∧ Below w.heap.size w w')
    (f : fm = 2)(m : s.toList = [108, 100, 46, 97, 98, 115])(h : k % 4 = 0) (h' : k.tmod 4 = 0) (g : 64 ≤ k) :
    Calls Tryd.prog 24 #[.agg #[.int .u16 c, .int .u8 a, .int .u8 b, .int .u32 k], .int .i64 i, .int .i64 n] w fun e w' => e = .returned (.int .i64 142) ∧ Below w.heap.size w w' := by
  obtain ⟨c0, c1, a0, a1, b0, b1, k0, k1⟩ := ho
  subst f
  have hn0 : (0 : Int) < n := by omega
  by_cases hl : (i : Int) < (n : Int) - 1
  · have hq : (0 : Int) ≤ (n : Int) - 1 - i := by omega
    go_enter Tryd.func24, Tryd.ntmps24
    go_wp2_with fail
    refine (hN _).mono ?_
    rintro e w1 ⟨rfl, hb⟩
    have B1 := ((Below.refl _ w).alloc (Nat.le_refl _) (.cells #[.int .u16 c, .int .u8 a, .int .u8 b, .int .u32 k] 51)).trans (hb.mono (by simp))
    have x0 := (hb.cell (p := ⟨w.heap.size, 0, none⟩) (by simp)).trans (show _ = some (Value.int .u16 c) by simp)
    have x1 := (hb.cell (p := ⟨w.heap.size, 1, none⟩) (by simp)).trans (show _ = some (Value.int .u8 a) by simp)
    have x2 := (hb.cell (p := ⟨w.heap.size, 2, none⟩) (by simp)).trans (show _ = some (Value.int .u8 b) by simp)
    have x3 := (hb.cell (p := ⟨w.heap.size, 3, none⟩) (by simp)).trans (show _ = some (Value.int .u32 k) by simp)
    clear hb hN
    go_wp2_with fail
    go_ret
    exact ⟨rfl, B1⟩
  · have hq : (n : Int) - 1 - i = 0 := by omega
    go_enter Tryd.func24, Tryd.ntmps24
    go_wp2_with fail
    refine (hN _).mono ?_
    rintro e w1 ⟨rfl, hb⟩
    have B1 := ((Below.refl _ w).alloc (Nat.le_refl _) (.cells #[.int .u16 c, .int .u8 a, .int .u8 b, .int .u32 k] 51)).trans (hb.mono (by simp))
    have x0 := (hb.cell (p := ⟨w.heap.size, 0, none⟩) (by simp)).trans (show _ = some (Value.int .u16 c) by simp)
    have x1 := (hb.cell (p := ⟨w.heap.size, 1, none⟩) (by simp)).trans (show _ = some (Value.int .u8 a) by simp)
    have x2 := (hb.cell (p := ⟨w.heap.size, 2, none⟩) (by simp)).trans (show _ = some (Value.int .u8 b) by simp)
    have x3 := (hb.cell (p := ⟨w.heap.size, 3, none⟩) (by simp)).trans (show _ = some (Value.int .u32 k) by simp)
    clear hb hN
    go_wp2_with fail
    go_ret
    exact ⟨rfl, B1⟩

set_option maxRecDepth 100000 in
set_option maxHeartbeats 2000000 in
theorem rone_ld3 (c a b k : Int) (i n : Nat) (fm : Int) (s : ByteArray) (w : World) (ho : InsOk c a b k) (hin : i < n) (hn : n ≤ 1000)
    (hN : ∀ w, Calls Tryd.prog 39 #[.int .u16 c] w fun e w' => e = .returned (.tuple #[.string s, .bool true]) ∧ Below w.heap.size w w')
    (hF : ∀ w, Calls Tryd.prog 40 #[.int .u16 c] w fun e w' => e = .returned (.int .i64 fm) ∧ Below w.heap.size w w')
    (f : fm = 2)(m : s.toList = [108, 100, 46, 97, 98, 115])(h : k % 4 = 0) (h' : k.tmod 4 = 0) (g : ¬ 64 ≤ k) :
    Calls Tryd.prog 24 #[.agg #[.int .u16 c, .int .u8 a, .int .u8 b, .int .u32 k], .int .i64 i, .int .i64 n] w fun e w' => e = .returned (.int .i64 0) ∧ Below w.heap.size w w' := by
  obtain ⟨c0, c1, a0, a1, b0, b1, k0, k1⟩ := ho
  subst f
  have hn0 : (0 : Int) < n := by omega
  by_cases hl : (i : Int) < (n : Int) - 1
  · have hq : (0 : Int) ≤ (n : Int) - 1 - i := by omega
    go_enter Tryd.func24, Tryd.ntmps24
    go_wp2_with fail
    refine (hN _).mono ?_
    rintro e w1 ⟨rfl, hb⟩
    have B1 := ((Below.refl _ w).alloc (Nat.le_refl _) (.cells #[.int .u16 c, .int .u8 a, .int .u8 b, .int .u32 k] 51)).trans (hb.mono (by simp))
    have x0 := (hb.cell (p := ⟨w.heap.size, 0, none⟩) (by simp)).trans (show _ = some (Value.int .u16 c) by simp)
    have x1 := (hb.cell (p := ⟨w.heap.size, 1, none⟩) (by simp)).trans (show _ = some (Value.int .u8 a) by simp)
    have x2 := (hb.cell (p := ⟨w.heap.size, 2, none⟩) (by simp)).trans (show _ = some (Value.int .u8 b) by simp)
    have x3 := (hb.cell (p := ⟨w.heap.size, 3, none⟩) (by simp)).trans (show _ = some (Value.int .u32 k) by simp)
    clear hb hN
    go_wp2_with fail
    refine (hF _).mono ?_
    rintro e w2 ⟨rfl, hb2⟩
    replace x0 := (hb2.cell (p := ⟨w.heap.size, 0, none⟩) (World.block_lt_of_cell? _ _ x0)).trans x0
    replace x1 := (hb2.cell (p := ⟨w.heap.size, 1, none⟩) (World.block_lt_of_cell? _ _ x1)).trans x1
    replace x2 := (hb2.cell (p := ⟨w.heap.size, 2, none⟩) (World.block_lt_of_cell? _ _ x2)).trans x2
    replace x3 := (hb2.cell (p := ⟨w.heap.size, 3, none⟩) (World.block_lt_of_cell? _ _ x3)).trans x3
    replace B1 := B1.trans (hb2.mono B1.size)
    clear hb2
    go_wp2_with fail
    go_ret
    exact ⟨rfl, B1⟩
  · have hq : (n : Int) - 1 - i = 0 := by omega
    go_enter Tryd.func24, Tryd.ntmps24
    go_wp2_with fail
    refine (hN _).mono ?_
    rintro e w1 ⟨rfl, hb⟩
    have B1 := ((Below.refl _ w).alloc (Nat.le_refl _) (.cells #[.int .u16 c, .int .u8 a, .int .u8 b, .int .u32 k] 51)).trans (hb.mono (by simp))
    have x0 := (hb.cell (p := ⟨w.heap.size, 0, none⟩) (by simp)).trans (show _ = some (Value.int .u16 c) by simp)
    have x1 := (hb.cell (p := ⟨w.heap.size, 1, none⟩) (by simp)).trans (show _ = some (Value.int .u8 a) by simp)
    have x2 := (hb.cell (p := ⟨w.heap.size, 2, none⟩) (by simp)).trans (show _ = some (Value.int .u8 b) by simp)
    have x3 := (hb.cell (p := ⟨w.heap.size, 3, none⟩) (by simp)).trans (show _ = some (Value.int .u32 k) by simp)
    clear hb hN
    go_wp2_with fail
    refine (hF _).mono ?_
    rintro e w2 ⟨rfl, hb2⟩
    replace x0 := (hb2.cell (p := ⟨w.heap.size, 0, none⟩) (World.block_lt_of_cell? _ _ x0)).trans x0
    replace x1 := (hb2.cell (p := ⟨w.heap.size, 1, none⟩) (World.block_lt_of_cell? _ _ x1)).trans x1
    replace x2 := (hb2.cell (p := ⟨w.heap.size, 2, none⟩) (World.block_lt_of_cell? _ _ x2)).trans x2
    replace x3 := (hb2.cell (p := ⟨w.heap.size, 3, none⟩) (World.block_lt_of_cell? _ _ x3)).trans x3
    replace B1 := B1.trans (hb2.mono B1.size)
    clear hb2
    go_wp2_with fail
    go_ret
    exact ⟨rfl, B1⟩

set_option maxRecDepth 100000 in
set_option maxHeartbeats 2000000 in
theorem rone_div1 (c a b k : Int) (i n : Nat) (fm : Int) (s : ByteArray) (w : World) (ho : InsOk c a b k) (hin : i < n) (hn : n ≤ 1000)
    (hN : ∀ w, Calls Tryd.prog 39 #[.int .u16 c] w fun e w' => e = .returned (.tuple #[.string s, .bool true]) ∧ Below w.heap.size w w')
    (f : fm = 1)(m : s.toList = [100, 105, 118, 46, 107])(h : k = 0) :
    Calls Tryd.prog 24 #[.agg #[.int .u16 c, .int .u8 a, .int .u8 b, .int .u32 k], .int .i64 i, .int .i64 n] w fun e w' => e = .returned (.int .i64 143) ∧ Below w.heap.size w w' := by
  obtain ⟨c0, c1, a0, a1, b0, b1, k0, k1⟩ := ho
  subst f
  subst h
  have hn0 : (0 : Int) < n := by omega
  by_cases hl : (i : Int) < (n : Int) - 1
  · have hq : (0 : Int) ≤ (n : Int) - 1 - i := by omega
    go_enter Tryd.func24, Tryd.ntmps24
    go_wp2_with fail
    refine (hN _).mono ?_
    rintro e w1 ⟨rfl, hb⟩
    have B1 := ((Below.refl _ w).alloc (Nat.le_refl _) (.cells #[.int .u16 c, .int .u8 a, .int .u8 b, .int .u32 0] 51)).trans (hb.mono (by simp))
    have x0 := (hb.cell (p := ⟨w.heap.size, 0, none⟩) (by simp)).trans (show _ = some (Value.int .u16 c) by simp)
    have x1 := (hb.cell (p := ⟨w.heap.size, 1, none⟩) (by simp)).trans (show _ = some (Value.int .u8 a) by simp)
    have x2 := (hb.cell (p := ⟨w.heap.size, 2, none⟩) (by simp)).trans (show _ = some (Value.int .u8 b) by simp)
    have x3 := (hb.cell (p := ⟨w.heap.size, 3, none⟩) (by simp)).trans (show _ = some (Value.int .u32 0) by simp)
    clear hb hN
    go_wp2_with fail
    go_ret
    exact ⟨rfl, B1⟩
  · have hq : (n : Int) - 1 - i = 0 := by omega
    go_enter Tryd.func24, Tryd.ntmps24
    go_wp2_with fail
    refine (hN _).mono ?_
    rintro e w1 ⟨rfl, hb⟩
    have B1 := ((Below.refl _ w).alloc (Nat.le_refl _) (.cells #[.int .u16 c, .int .u8 a, .int .u8 b, .int .u32 0] 51)).trans (hb.mono (by simp))
    have x0 := (hb.cell (p := ⟨w.heap.size, 0, none⟩) (by simp)).trans (show _ = some (Value.int .u16 c) by simp)
    have x1 := (hb.cell (p := ⟨w.heap.size, 1, none⟩) (by simp)).trans (show _ = some (Value.int .u8 a) by simp)
    have x2 := (hb.cell (p := ⟨w.heap.size, 2, none⟩) (by simp)).trans (show _ = some (Value.int .u8 b) by simp)
    have x3 := (hb.cell (p := ⟨w.heap.size, 3, none⟩) (by simp)).trans (show _ = some (Value.int .u32 0) by simp)
    clear hb hN
    go_wp2_with fail
    go_ret
    exact ⟨rfl, B1⟩

set_option maxRecDepth 100000 in
set_option maxHeartbeats 2000000 in
theorem rone_div2 (c a b k : Int) (i n : Nat) (fm : Int) (s : ByteArray) (w : World) (ho : InsOk c a b k) (hin : i < n) (hn : n ≤ 1000)
    (hN : ∀ w, Calls Tryd.prog 39 #[.int .u16 c] w fun e w' => e = .returned (.tuple #[.string s, .bool true]) ∧ Below w.heap.size w w')
    (hF : ∀ w, Calls Tryd.prog 40 #[.int .u16 c] w fun e w' => e = .returned (.int .i64 fm) ∧ Below w.heap.size w w')
    (f : fm = 1)(m : s.toList = [100, 105, 118, 46, 107])(h : ¬ k = 0) :
    Calls Tryd.prog 24 #[.agg #[.int .u16 c, .int .u8 a, .int .u8 b, .int .u32 k], .int .i64 i, .int .i64 n] w fun e w' => e = .returned (.int .i64 0) ∧ Below w.heap.size w w' := by
  obtain ⟨c0, c1, a0, a1, b0, b1, k0, k1⟩ := ho
  subst f
  have hn0 : (0 : Int) < n := by omega
  by_cases hl : (i : Int) < (n : Int) - 1
  · have hq : (0 : Int) ≤ (n : Int) - 1 - i := by omega
    go_enter Tryd.func24, Tryd.ntmps24
    go_wp2_with fail
    refine (hN _).mono ?_
    rintro e w1 ⟨rfl, hb⟩
    have B1 := ((Below.refl _ w).alloc (Nat.le_refl _) (.cells #[.int .u16 c, .int .u8 a, .int .u8 b, .int .u32 k] 51)).trans (hb.mono (by simp))
    have x0 := (hb.cell (p := ⟨w.heap.size, 0, none⟩) (by simp)).trans (show _ = some (Value.int .u16 c) by simp)
    have x1 := (hb.cell (p := ⟨w.heap.size, 1, none⟩) (by simp)).trans (show _ = some (Value.int .u8 a) by simp)
    have x2 := (hb.cell (p := ⟨w.heap.size, 2, none⟩) (by simp)).trans (show _ = some (Value.int .u8 b) by simp)
    have x3 := (hb.cell (p := ⟨w.heap.size, 3, none⟩) (by simp)).trans (show _ = some (Value.int .u32 k) by simp)
    clear hb hN
    go_wp2_with fail
    refine (hF _).mono ?_
    rintro e w2 ⟨rfl, hb2⟩
    replace x0 := (hb2.cell (p := ⟨w.heap.size, 0, none⟩) (World.block_lt_of_cell? _ _ x0)).trans x0
    replace x1 := (hb2.cell (p := ⟨w.heap.size, 1, none⟩) (World.block_lt_of_cell? _ _ x1)).trans x1
    replace x2 := (hb2.cell (p := ⟨w.heap.size, 2, none⟩) (World.block_lt_of_cell? _ _ x2)).trans x2
    replace x3 := (hb2.cell (p := ⟨w.heap.size, 3, none⟩) (World.block_lt_of_cell? _ _ x3)).trans x3
    replace B1 := B1.trans (hb2.mono B1.size)
    clear hb2
    go_wp2_with fail
    go_ret
    exact ⟨rfl, B1⟩
  · have hq : (n : Int) - 1 - i = 0 := by omega
    go_enter Tryd.func24, Tryd.ntmps24
    go_wp2_with fail
    refine (hN _).mono ?_
    rintro e w1 ⟨rfl, hb⟩
    have B1 := ((Below.refl _ w).alloc (Nat.le_refl _) (.cells #[.int .u16 c, .int .u8 a, .int .u8 b, .int .u32 k] 51)).trans (hb.mono (by simp))
    have x0 := (hb.cell (p := ⟨w.heap.size, 0, none⟩) (by simp)).trans (show _ = some (Value.int .u16 c) by simp)
    have x1 := (hb.cell (p := ⟨w.heap.size, 1, none⟩) (by simp)).trans (show _ = some (Value.int .u8 a) by simp)
    have x2 := (hb.cell (p := ⟨w.heap.size, 2, none⟩) (by simp)).trans (show _ = some (Value.int .u8 b) by simp)
    have x3 := (hb.cell (p := ⟨w.heap.size, 3, none⟩) (by simp)).trans (show _ = some (Value.int .u32 k) by simp)
    clear hb hN
    go_wp2_with fail
    refine (hF _).mono ?_
    rintro e w2 ⟨rfl, hb2⟩
    replace x0 := (hb2.cell (p := ⟨w.heap.size, 0, none⟩) (World.block_lt_of_cell? _ _ x0)).trans x0
    replace x1 := (hb2.cell (p := ⟨w.heap.size, 1, none⟩) (World.block_lt_of_cell? _ _ x1)).trans x1
    replace x2 := (hb2.cell (p := ⟨w.heap.size, 2, none⟩) (World.block_lt_of_cell? _ _ x2)).trans x2
    replace x3 := (hb2.cell (p := ⟨w.heap.size, 3, none⟩) (World.block_lt_of_cell? _ _ x3)).trans x3
    replace B1 := B1.trans (hb2.mono B1.size)
    clear hb2
    go_wp2_with fail
    go_ret
    exact ⟨rfl, B1⟩

set_option maxRecDepth 100000 in
set_option maxHeartbeats 2000000 in
theorem rone_lsh1 (c a b k : Int) (i n : Nat) (fm : Int) (s : ByteArray) (w : World) (ho : InsOk c a b k) (hin : i < n) (hn : n ≤ 1000)
    (hN : ∀ w, Calls Tryd.prog 39 #[.int .u16 c] w fun e w' => e = .returned (.tuple #[.string s, .bool true]) ∧ Below w.heap.size w w')
    (f : fm = 1)(m : s.toList = [108, 115, 104, 46, 107])(h : 32 ≤ k) :
    Calls Tryd.prog 24 #[.agg #[.int .u16 c, .int .u8 a, .int .u8 b, .int .u32 k], .int .i64 i, .int .i64 n] w fun e w' => e = .returned (.int .i64 144) ∧ Below w.heap.size w w' := by
  obtain ⟨c0, c1, a0, a1, b0, b1, k0, k1⟩ := ho
  subst f
  have hn0 : (0 : Int) < n := by omega
  by_cases hl : (i : Int) < (n : Int) - 1
  · have hq : (0 : Int) ≤ (n : Int) - 1 - i := by omega
    go_enter Tryd.func24, Tryd.ntmps24
    go_wp2_with fail
    refine (hN _).mono ?_
    rintro e w1 ⟨rfl, hb⟩
    have B1 := ((Below.refl _ w).alloc (Nat.le_refl _) (.cells #[.int .u16 c, .int .u8 a, .int .u8 b, .int .u32 k] 51)).trans (hb.mono (by simp))
    have x0 := (hb.cell (p := ⟨w.heap.size, 0, none⟩) (by simp)).trans (show _ = some (Value.int .u16 c) by simp)
    have x1 := (hb.cell (p := ⟨w.heap.size, 1, none⟩) (by simp)).trans (show _ = some (Value.int .u8 a) by simp)
    have x2 := (hb.cell (p := ⟨w.heap.size, 2, none⟩) (by simp)).trans (show _ = some (Value.int .u8 b) by simp)
    have x3 := (hb.cell (p := ⟨w.heap.size, 3, none⟩) (by simp)).trans (show _ = some (Value.int .u32 k) by simp)
    clear hb hN
    go_wp2_with fail
    go_ret
    exact ⟨rfl, B1⟩
  · have hq : (n : Int) - 1 - i = 0 := by omega
    go_enter Tryd.func24, Tryd.ntmps24
    go_wp2_with fail
    refine (hN _).mono ?_
    rintro e w1 ⟨rfl, hb⟩
    have B1 := ((Below.refl _ w).alloc (Nat.le_refl _) (.cells #[.int .u16 c, .int .u8 a, .int .u8 b, .int .u32 k] 51)).trans (hb.mono (by simp))
    have x0 := (hb.cell (p := ⟨w.heap.size, 0, none⟩) (by simp)).trans (show _ = some (Value.int .u16 c) by simp)
    have x1 := (hb.cell (p := ⟨w.heap.size, 1, none⟩) (by simp)).trans (show _ = some (Value.int .u8 a) by simp)
    have x2 := (hb.cell (p := ⟨w.heap.size, 2, none⟩) (by simp)).trans (show _ = some (Value.int .u8 b) by simp)
    have x3 := (hb.cell (p := ⟨w.heap.size, 3, none⟩) (by simp)).trans (show _ = some (Value.int .u32 k) by simp)
    clear hb hN
    go_wp2_with fail
    go_ret
    exact ⟨rfl, B1⟩

set_option maxRecDepth 100000 in
set_option maxHeartbeats 2000000 in
theorem rone_lsh2 (c a b k : Int) (i n : Nat) (fm : Int) (s : ByteArray) (w : World) (ho : InsOk c a b k) (hin : i < n) (hn : n ≤ 1000)
    (hN : ∀ w, Calls Tryd.prog 39 #[.int .u16 c] w fun e w' => e = .returned (.tuple #[.string s, .bool true]) ∧ Below w.heap.size w w')
    (hF : ∀ w, Calls Tryd.prog 40 #[.int .u16 c] w fun e w' => e = .returned (.int .i64 fm) ∧ Below w.heap.size w w')
    (f : fm = 1)(m : s.toList = [108, 115, 104, 46, 107])(h : ¬ 32 ≤ k) :
    Calls Tryd.prog 24 #[.agg #[.int .u16 c, .int .u8 a, .int .u8 b, .int .u32 k], .int .i64 i, .int .i64 n] w fun e w' => e = .returned (.int .i64 0) ∧ Below w.heap.size w w' := by
  obtain ⟨c0, c1, a0, a1, b0, b1, k0, k1⟩ := ho
  subst f
  have hn0 : (0 : Int) < n := by omega
  by_cases hl : (i : Int) < (n : Int) - 1
  · have hq : (0 : Int) ≤ (n : Int) - 1 - i := by omega
    go_enter Tryd.func24, Tryd.ntmps24
    go_wp2_with fail
    refine (hN _).mono ?_
    rintro e w1 ⟨rfl, hb⟩
    have B1 := ((Below.refl _ w).alloc (Nat.le_refl _) (.cells #[.int .u16 c, .int .u8 a, .int .u8 b, .int .u32 k] 51)).trans (hb.mono (by simp))
    have x0 := (hb.cell (p := ⟨w.heap.size, 0, none⟩) (by simp)).trans (show _ = some (Value.int .u16 c) by simp)
    have x1 := (hb.cell (p := ⟨w.heap.size, 1, none⟩) (by simp)).trans (show _ = some (Value.int .u8 a) by simp)
    have x2 := (hb.cell (p := ⟨w.heap.size, 2, none⟩) (by simp)).trans (show _ = some (Value.int .u8 b) by simp)
    have x3 := (hb.cell (p := ⟨w.heap.size, 3, none⟩) (by simp)).trans (show _ = some (Value.int .u32 k) by simp)
    clear hb hN
    go_wp2_with fail
    refine (hF _).mono ?_
    rintro e w2 ⟨rfl, hb2⟩
    replace x0 := (hb2.cell (p := ⟨w.heap.size, 0, none⟩) (World.block_lt_of_cell? _ _ x0)).trans x0
    replace x1 := (hb2.cell (p := ⟨w.heap.size, 1, none⟩) (World.block_lt_of_cell? _ _ x1)).trans x1
    replace x2 := (hb2.cell (p := ⟨w.heap.size, 2, none⟩) (World.block_lt_of_cell? _ _ x2)).trans x2
    replace x3 := (hb2.cell (p := ⟨w.heap.size, 3, none⟩) (World.block_lt_of_cell? _ _ x3)).trans x3
    replace B1 := B1.trans (hb2.mono B1.size)
    clear hb2
    go_wp2_with fail
    go_ret
    exact ⟨rfl, B1⟩
  · have hq : (n : Int) - 1 - i = 0 := by omega
    go_enter Tryd.func24, Tryd.ntmps24
    go_wp2_with fail
    refine (hN _).mono ?_
    rintro e w1 ⟨rfl, hb⟩
    have B1 := ((Below.refl _ w).alloc (Nat.le_refl _) (.cells #[.int .u16 c, .int .u8 a, .int .u8 b, .int .u32 k] 51)).trans (hb.mono (by simp))
    have x0 := (hb.cell (p := ⟨w.heap.size, 0, none⟩) (by simp)).trans (show _ = some (Value.int .u16 c) by simp)
    have x1 := (hb.cell (p := ⟨w.heap.size, 1, none⟩) (by simp)).trans (show _ = some (Value.int .u8 a) by simp)
    have x2 := (hb.cell (p := ⟨w.heap.size, 2, none⟩) (by simp)).trans (show _ = some (Value.int .u8 b) by simp)
    have x3 := (hb.cell (p := ⟨w.heap.size, 3, none⟩) (by simp)).trans (show _ = some (Value.int .u32 k) by simp)
    clear hb hN
    go_wp2_with fail
    refine (hF _).mono ?_
    rintro e w2 ⟨rfl, hb2⟩
    replace x0 := (hb2.cell (p := ⟨w.heap.size, 0, none⟩) (World.block_lt_of_cell? _ _ x0)).trans x0
    replace x1 := (hb2.cell (p := ⟨w.heap.size, 1, none⟩) (World.block_lt_of_cell? _ _ x1)).trans x1
    replace x2 := (hb2.cell (p := ⟨w.heap.size, 2, none⟩) (World.block_lt_of_cell? _ _ x2)).trans x2
    replace x3 := (hb2.cell (p := ⟨w.heap.size, 3, none⟩) (World.block_lt_of_cell? _ _ x3)).trans x3
    replace B1 := B1.trans (hb2.mono B1.size)
    clear hb2
    go_wp2_with fail
    go_ret
    exact ⟨rfl, B1⟩

set_option maxRecDepth 100000 in
set_option maxHeartbeats 2000000 in
theorem rone_rsh1 (c a b k : Int) (i n : Nat) (fm : Int) (s : ByteArray) (w : World) (ho : InsOk c a b k) (hin : i < n) (hn : n ≤ 1000)
    (hN : ∀ w, Calls Tryd.prog 39 #[.int .u16 c] w fun e w' => e = .returned (.tuple #[.string s, .bool true]) ∧ Below w.heap.size w w')
    (f : fm = 1)(m : s.toList = [114, 115, 104, 46, 107])(h : 32 ≤ k) :
    Calls Tryd.prog 24 #[.agg #[.int .u16 c, .int .u8 a, .int .u8 b, .int .u32 k], .int .i64 i, .int .i64 n] w fun e w' => e = .returned (.int .i64 144) ∧ Below w.heap.size w w' := by
  obtain ⟨c0, c1, a0, a1, b0, b1, k0, k1⟩ := ho
  subst f
  have hn0 : (0 : Int) < n := by omega
  by_cases hl : (i : Int) < (n : Int) - 1
  · have hq : (0 : Int) ≤ (n : Int) - 1 - i := by omega
    go_enter Tryd.func24, Tryd.ntmps24
    go_wp2_with fail
    refine (hN _).mono ?_
    rintro e w1 ⟨rfl, hb⟩
    have B1 := ((Below.refl _ w).alloc (Nat.le_refl _) (.cells #[.int .u16 c, .int .u8 a, .int .u8 b, .int .u32 k] 51)).trans (hb.mono (by simp))
    have x0 := (hb.cell (p := ⟨w.heap.size, 0, none⟩) (by simp)).trans (show _ = some (Value.int .u16 c) by simp)
    have x1 := (hb.cell (p := ⟨w.heap.size, 1, none⟩) (by simp)).trans (show _ = some (Value.int .u8 a) by simp)
    have x2 := (hb.cell (p := ⟨w.heap.size, 2, none⟩) (by simp)).trans (show _ = some (Value.int .u8 b) by simp)
    have x3 := (hb.cell (p := ⟨w.heap.size, 3, none⟩) (by simp)).trans (show _ = some (Value.int .u32 k) by simp)
    clear hb hN
    go_wp2_with fail
    go_ret
    exact ⟨rfl, B1⟩
  · have hq : (n : Int) - 1 - i = 0 := by omega
    go_enter Tryd.func24, Tryd.ntmps24
    go_wp2_with fail
    refine (hN _).mono ?_
    rintro e w1 ⟨rfl, hb⟩
    have B1 := ((Below.refl _ w).alloc (Nat.le_refl _) (.cells #[.int .u16 c, .int .u8 a, .int .u8 b, .int .u32 k] 51)).trans (hb.mono (by simp))
    have x0 := (hb.cell (p := ⟨w.heap.size, 0, none⟩) (by simp)).trans (show _ = some (Value.int .u16 c) by simp)
    have x1 := (hb.cell (p := ⟨w.heap.size, 1, none⟩) (by simp)).trans (show _ = some (Value.int .u8 a) by simp)
    have x2 := (hb.cell (p := ⟨w.heap.size, 2, none⟩) (by simp)).trans (show _ = some (Value.int .u8 b) by simp)
    have x3 := (hb.cell (p := ⟨w.heap.size, 3, none⟩) (by simp)).trans (show _ = some (Value.int .u32 k) by simp)
    clear hb hN
    go_wp2_with fail
    go_ret
    exact ⟨rfl, B1⟩

set_option maxRecDepth 100000 in
set_option maxHeartbeats 2000000 in
theorem rone_rsh2 (c a b k : Int) (i n : Nat) (fm : Int) (s : ByteArray) (w : World) (ho : InsOk c a b k) (hin : i < n) (hn : n ≤ 1000)
    (hN : ∀ w, Calls Tryd.prog 39 #[.int .u16 c] w fun e w' => e = .returned (.tuple #[.string s, .bool true]) ∧ Below w.heap.size w w')
    (hF : ∀ w, Calls Tryd.prog 40 #[.int .u16 c] w fun e w' => e = .returned (.int .i64 fm) ∧ Below w.heap.size w w')
    (f : fm = 1)(m : s.toList = [114, 115, 104, 46, 107])(h : ¬ 32 ≤ k) :
    Calls Tryd.prog 24 #[.agg #[.int .u16 c, .int .u8 a, .int .u8 b, .int .u32 k], .int .i64 i, .int .i64 n] w fun e w' => e = .returned (.int .i64 0) ∧ Below w.heap.size w w' := by
  obtain ⟨c0, c1, a0, a1, b0, b1, k0, k1⟩ := ho
  subst f
  have hn0 : (0 : Int) < n := by omega
  by_cases hl : (i : Int) < (n : Int) - 1
  · have hq : (0 : Int) ≤ (n : Int) - 1 - i := by omega
    go_enter Tryd.func24, Tryd.ntmps24
    go_wp2_with fail
    refine (hN _).mono ?_
    rintro e w1 ⟨rfl, hb⟩
    have B1 := ((Below.refl _ w).alloc (Nat.le_refl _) (.cells #[.int .u16 c, .int .u8 a, .int .u8 b, .int .u32 k] 51)).trans (hb.mono (by simp))
    have x0 := (hb.cell (p := ⟨w.heap.size, 0, none⟩) (by simp)).trans (show _ = some (Value.int .u16 c) by simp)
    have x1 := (hb.cell (p := ⟨w.heap.size, 1, none⟩) (by simp)).trans (show _ = some (Value.int .u8 a) by simp)
    have x2 := (hb.cell (p := ⟨w.heap.size, 2, none⟩) (by simp)).trans (show _ = some (Value.int .u8 b) by simp)
    have x3 := (hb.cell (p := ⟨w.heap.size, 3, none⟩) (by simp)).trans (show _ = some (Value.int .u32 k) by simp)
    clear hb hN
    go_wp2_with fail
    refine (hF _).mono ?_
    rintro e w2 ⟨rfl, hb2⟩
    replace x0 := (hb2.cell (p := ⟨w.heap.size, 0, none⟩) (World.block_lt_of_cell? _ _ x0)).trans x0
    replace x1 := (hb2.cell (p := ⟨w.heap.size, 1, none⟩) (World.block_lt_of_cell? _ _ x1)).trans x1
    replace x2 := (hb2.cell (p := ⟨w.heap.size, 2, none⟩) (World.block_lt_of_cell? _ _ x2)).trans x2
    replace x3 := (hb2.cell (p := ⟨w.heap.size, 3, none⟩) (World.block_lt_of_cell? _ _ x3)).trans x3
    replace B1 := B1.trans (hb2.mono B1.size)
    clear hb2
    go_wp2_with fail
    go_ret
    exact ⟨rfl, B1⟩
  · have hq : (n : Int) - 1 - i = 0 := by omega
    go_enter Tryd.func24, Tryd.ntmps24
    go_wp2_with fail
    refine (hN _).mono ?_
    rintro e w1 ⟨rfl, hb⟩
    have B1 := ((Below.refl _ w).alloc (Nat.le_refl _) (.cells #[.int .u16 c, .int .u8 a, .int .u8 b, .int .u32 k] 51)).trans (hb.mono (by simp))
    have x0 := (hb.cell (p := ⟨w.heap.size, 0, none⟩) (by simp)).trans (show _ = some (Value.int .u16 c) by simp)
    have x1 := (hb.cell (p := ⟨w.heap.size, 1, none⟩) (by simp)).trans (show _ = some (Value.int .u8 a) by simp)
    have x2 := (hb.cell (p := ⟨w.heap.size, 2, none⟩) (by simp)).trans (show _ = some (Value.int .u8 b) by simp)
    have x3 := (hb.cell (p := ⟨w.heap.size, 3, none⟩) (by simp)).trans (show _ = some (Value.int .u32 k) by simp)
    clear hb hN
    go_wp2_with fail
    refine (hF _).mono ?_
    rintro e w2 ⟨rfl, hb2⟩
    replace x0 := (hb2.cell (p := ⟨w.heap.size, 0, none⟩) (World.block_lt_of_cell? _ _ x0)).trans x0
    replace x1 := (hb2.cell (p := ⟨w.heap.size, 1, none⟩) (World.block_lt_of_cell? _ _ x1)).trans x1
    replace x2 := (hb2.cell (p := ⟨w.heap.size, 2, none⟩) (World.block_lt_of_cell? _ _ x2)).trans x2
    replace x3 := (hb2.cell (p := ⟨w.heap.size, 3, none⟩) (World.block_lt_of_cell? _ _ x3)).trans x3
    replace B1 := B1.trans (hb2.mono B1.size)
    clear hb2
    go_wp2_with fail
    go_ret
    exact ⟨rfl, B1⟩

set_option maxRecDepth 100000 in
set_option maxHeartbeats 2000000 in
theorem rone_mem1 (c a b k : Int) (i n : Nat) (fm : Int) (s : ByteArray) (w : World) (ho : InsOk c a b k) (hin : i < n) (hn : n ≤ 1000)
    (hN : ∀ w, Calls Tryd.prog 39 #[.int .u16 c] w fun e w' => e = .returned (.tuple #[.string s, .bool true]) ∧ Below w.heap.size w w')
    (hF : ∀ w, Calls Tryd.prog 40 #[.int .u16 c] w fun e w' => e = .returned (.int .i64 fm) ∧ Below w.heap.size w w')
    (f : fm = 3)(m1 : ¬ s.toList = [108, 100, 46, 97, 98, 115]) (m2 : ¬ s.toList = [100, 105, 118, 46, 107]) (m3 : ¬ s.toList = [108, 115, 104, 46, 107]) (m4 : ¬ s.toList = [114, 115, 104, 46, 107])(h : 16 ≤ k) :
    Calls Tryd.prog 24 #[.agg #[.int .u16 c, .int .u8 a, .int .u8 b, .int .u32 k], .int .i64 i, .int .i64 n] w fun e w' => e = .returned (.int .i64 145) ∧ Below w.heap.size w w' := by
  obtain ⟨c0, c1, a0, a1, b0, b1, k0, k1⟩ := ho
  subst f
  have hn0 : (0 : Int) < n := by omega
  by_cases hl : (i : Int) < (n : Int) - 1
  · have hq : (0 : Int) ≤ (n : Int) - 1 - i := by omega
    go_enter Tryd.func24, Tryd.ntmps24
    go_wp2_with fail
    refine (hN _).mono ?_
    rintro e w1 ⟨rfl, hb⟩
    have B1 := ((Below.refl _ w).alloc (Nat.le_refl _) (.cells #[.int .u16 c, .int .u8 a, .int .u8 b, .int .u32 k] 51)).trans (hb.mono (by simp))
    have x0 := (hb.cell (p := ⟨w.heap.size, 0, none⟩) (by simp)).trans (show _ = some (Value.int .u16 c) by simp)
    have x1 := (hb.cell (p := ⟨w.heap.size, 1, none⟩) (by simp)).trans (show _ = some (Value.int .u8 a) by simp)
    have x2 := (hb.cell (p := ⟨w.heap.size, 2, none⟩) (by simp)).trans (show _ = some (Value.int .u8 b) by simp)
    have x3 := (hb.cell (p := ⟨w.heap.size, 3, none⟩) (by simp)).trans (show _ = some (Value.int .u32 k) by simp)
    clear hb hN
    go_wp2_with fail
    refine (hF _).mono ?_
    rintro e w2 ⟨rfl, hb2⟩
    replace x0 := (hb2.cell (p := ⟨w.heap.size, 0, none⟩) (World.block_lt_of_cell? _ _ x0)).trans x0
    replace x1 := (hb2.cell (p := ⟨w.heap.size, 1, none⟩) (World.block_lt_of_cell? _ _ x1)).trans x1
    replace x2 := (hb2.cell (p := ⟨w.heap.size, 2, none⟩) (World.block_lt_of_cell? _ _ x2)).trans x2
    replace x3 := (hb2.cell (p := ⟨w.heap.size, 3, none⟩) (World.block_lt_of_cell? _ _ x3)).trans x3
    replace B1 := B1.trans (hb2.mono B1.size)
    clear hb2
    go_wp2_with fail
    go_ret
    exact ⟨rfl, B1⟩
  · have hq : (n : Int) - 1 - i = 0 := by omega
    go_enter Tryd.func24, Tryd.ntmps24
    go_wp2_with fail
    refine (hN _).mono ?_
    rintro e w1 ⟨rfl, hb⟩
    have B1 := ((Below.refl _ w).alloc (Nat.le_refl _) (.cells #[.int .u16 c, .int .u8 a, .int .u8 b, .int .u32 k] 51)).trans (hb.mono (by simp))
    have x0 := (hb.cell (p := ⟨w.heap.size, 0, none⟩) (by simp)).trans (show _ = some (Value.int .u16 c) by simp)
    have x1 := (hb.cell (p := ⟨w.heap.size, 1, none⟩) (by simp)).trans (show _ = some (Value.int .u8 a) by simp)
    have x2 := (hb.cell (p := ⟨w.heap.size, 2, none⟩) (by simp)).trans (show _ = some (Value.int .u8 b) by simp)
    have x3 := (hb.cell (p := ⟨w.heap.size, 3, none⟩) (by simp)).trans (show _ = some (Value.int .u32 k) by simp)
    clear hb hN
    go_wp2_with fail
    refine (hF _).mono ?_
    rintro e w2 ⟨rfl, hb2⟩
    replace x0 := (hb2.cell (p := ⟨w.heap.size, 0, none⟩) (World.block_lt_of_cell? _ _ x0)).trans x0
    replace x1 := (hb2.cell (p := ⟨w.heap.size, 1, none⟩) (World.block_lt_of_cell? _ _ x1)).trans x1
    replace x2 := (hb2.cell (p := ⟨w.heap.size, 2, none⟩) (World.block_lt_of_cell? _ _ x2)).trans x2
    replace x3 := (hb2.cell (p := ⟨w.heap.size, 3, none⟩) (World.block_lt_of_cell? _ _ x3)).trans x3
    replace B1 := B1.trans (hb2.mono B1.size)
    clear hb2
    go_wp2_with fail
    go_ret
    exact ⟨rfl, B1⟩

set_option maxRecDepth 100000 in
set_option maxHeartbeats 2000000 in
theorem rone_mem2 (c a b k : Int) (i n : Nat) (fm : Int) (s : ByteArray) (w : World) (ho : InsOk c a b k) (hin : i < n) (hn : n ≤ 1000)
    (hN : ∀ w, Calls Tryd.prog 39 #[.int .u16 c] w fun e w' => e = .returned (.tuple #[.string s, .bool true]) ∧ Below w.heap.size w w')
    (hF : ∀ w, Calls Tryd.prog 40 #[.int .u16 c] w fun e w' => e = .returned (.int .i64 fm) ∧ Below w.heap.size w w')
    (f : fm = 3)(m1 : ¬ s.toList = [108, 100, 46, 97, 98, 115]) (m2 : ¬ s.toList = [100, 105, 118, 46, 107]) (m3 : ¬ s.toList = [108, 115, 104, 46, 107]) (m4 : ¬ s.toList = [114, 115, 104, 46, 107])(h : ¬ 16 ≤ k) :
    Calls Tryd.prog 24 #[.agg #[.int .u16 c, .int .u8 a, .int .u8 b, .int .u32 k], .int .i64 i, .int .i64 n] w fun e w' => e = .returned (.int .i64 0) ∧ Below w.heap.size w w' := by
  obtain ⟨c0, c1, a0, a1, b0, b1, k0, k1⟩ := ho
  subst f
  have hn0 : (0 : Int) < n := by omega
  by_cases hl : (i : Int) < (n : Int) - 1
  · have hq : (0 : Int) ≤ (n : Int) - 1 - i := by omega
    go_enter Tryd.func24, Tryd.ntmps24
    go_wp2_with fail
    refine (hN _).mono ?_
    rintro e w1 ⟨rfl, hb⟩
    have B1 := ((Below.refl _ w).alloc (Nat.le_refl _) (.cells #[.int .u16 c, .int .u8 a, .int .u8 b, .int .u32 k] 51)).trans (hb.mono (by simp))
    have x0 := (hb.cell (p := ⟨w.heap.size, 0, none⟩) (by simp)).trans (show _ = some (Value.int .u16 c) by simp)
    have x1 := (hb.cell (p := ⟨w.heap.size, 1, none⟩) (by simp)).trans (show _ = some (Value.int .u8 a) by simp)
    have x2 := (hb.cell (p := ⟨w.heap.size, 2, none⟩) (by simp)).trans (show _ = some (Value.int .u8 b) by simp)
    have x3 := (hb.cell (p := ⟨w.heap.size, 3, none⟩) (by simp)).trans (show _ = some (Value.int .u32 k) by simp)
    clear hb hN
    go_wp2_with fail
    refine (hF _).mono ?_
    rintro e w2 ⟨rfl, hb2⟩
    replace x0 := (hb2.cell (p := ⟨w.heap.size, 0, none⟩) (World.block_lt_of_cell? _ _ x0)).trans x0
    replace x1 := (hb2.cell (p := ⟨w.heap.size, 1, none⟩) (World.block_lt_of_cell? _ _ x1)).trans x1
    replace x2 := (hb2.cell (p := ⟨w.heap.size, 2, none⟩) (World.block_lt_of_cell? _ _ x2)).trans x2
    replace x3 := (hb2.cell (p := ⟨w.heap.size, 3, none⟩) (World.block_lt_of_cell? _ _ x3)).trans x3
    replace B1 := B1.trans (hb2.mono B1.size)
    clear hb2
    go_wp2_with fail
    go_ret
    exact ⟨rfl, B1⟩
  · have hq : (n : Int) - 1 - i = 0 := by omega
    go_enter Tryd.func24, Tryd.ntmps24
    go_wp2_with fail
    refine (hN _).mono ?_
    rintro e w1 ⟨rfl, hb⟩
    have B1 := ((Below.refl _ w).alloc (Nat.le_refl _) (.cells #[.int .u16 c, .int .u8 a, .int .u8 b, .int .u32 k] 51)).trans (hb.mono (by simp))
    have x0 := (hb.cell (p := ⟨w.heap.size, 0, none⟩) (by simp)).trans (show _ = some (Value.int .u16 c) by simp)
    have x1 := (hb.cell (p := ⟨w.heap.size, 1, none⟩) (by simp)).trans (show _ = some (Value.int .u8 a) by simp)
    have x2 := (hb.cell (p := ⟨w.heap.size, 2, none⟩) (by simp)).trans (show _ = some (Value.int .u8 b) by simp)
    have x3 := (hb.cell (p := ⟨w.heap.size, 3, none⟩) (by simp)).trans (show _ = some (Value.int .u32 k) by simp)
    clear hb hN
    go_wp2_with fail
    refine (hF _).mono ?_
    rintro e w2 ⟨rfl, hb2⟩
    replace x0 := (hb2.cell (p := ⟨w.heap.size, 0, none⟩) (World.block_lt_of_cell? _ _ x0)).trans x0
    replace x1 := (hb2.cell (p := ⟨w.heap.size, 1, none⟩) (World.block_lt_of_cell? _ _ x1)).trans x1
    replace x2 := (hb2.cell (p := ⟨w.heap.size, 2, none⟩) (World.block_lt_of_cell? _ _ x2)).trans x2
    replace x3 := (hb2.cell (p := ⟨w.heap.size, 3, none⟩) (World.block_lt_of_cell? _ _ x3)).trans x3
    replace B1 := B1.trans (hb2.mono B1.size)
    clear hb2
    go_wp2_with fail
    go_ret
    exact ⟨rfl, B1⟩

end Go.Proofs.YtehcijockeecpaaDoor
