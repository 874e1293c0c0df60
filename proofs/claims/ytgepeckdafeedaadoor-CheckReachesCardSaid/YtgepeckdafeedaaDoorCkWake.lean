/-
  The layer is awake: wicketgatelaw04.wakes.
-/
import Derived.Test.YtgepeckdafeedaaDoorCkFew
namespace Go.Proofs.YtgepeckdafeedaaDoor
open Go.RowKit

def wk1 : Nat → Ins := fun _ => (6, 0, 0, 0)
def wk3 : Nat → Ins := fun k => if k = 0 then (21, 0, 1, 0) else if k = 1 then (6, 0, 0, 0) else (4, 0, 0, 0)
theorem chk_wk1 : chkI wk1 1 = (0, 0) := by rfl
theorem chk_wk0 : chkI wk1 0 = (0, 140) := by rfl
theorem chk_wk3 : chkI wk3 3 = (2, 147) := by rfl
theorem next_wk : nextL (21, 0, 1, 0) 0 = [1, 2] := by rfl
theorem ri_wk1 (w : World) : Ri (w.alloc (.cells #[.int .u16 6, .int .u8 0, .int .u8 0, .int .u32 0] 42)) (w.alloc (.cells #[.int .u16 6, .int .u8 0, .int .u8 0, .int .u32 0] 42)).heap.size (some ⟨w.heap.size, 0, none⟩) 1 wk1 := fun k hk => by
  obtain rfl : k = 0 := by omega
  exact ⟨w.heap.size, 0, rfl, by simp, ⟨by simp [wk1], by simp [wk1], by simp [wk1], by simp [wk1]⟩, by constructor <;> simp [wk1]⟩
theorem ri_wk3 (w : World) : Ri (w.alloc (.cells #[.int .u16 21, .int .u8 0, .int .u8 1, .int .u32 0, .int .u16 6, .int .u8 0, .int .u8 0, .int .u32 0, .int .u16 4, .int .u8 0, .int .u8 0, .int .u32 0] 42)) (w.alloc (.cells #[.int .u16 21, .int .u8 0, .int .u8 1, .int .u32 0, .int .u16 6, .int .u8 0, .int .u8 0, .int .u32 0, .int .u16 4, .int .u8 0, .int .u8 0, .int .u32 0] 42)).heap.size (some ⟨w.heap.size, 0, none⟩) 3 wk3 := fun k hk => by
  have : k = 0 ∨ k = 1 ∨ k = 2 := by omega
  rcases this with rfl | rfl | rfl
  all_goals exact ⟨w.heap.size, 0, rfl, by simp, ⟨by simp [wk3], by simp [wk3], by simp [wk3], by simp [wk3]⟩, by constructor <;> simp [wk3]⟩

set_option maxRecDepth 100000 in
set_option maxHeartbeats 4000000 in
theorem wakes4_any (w : World) (hK : Kinds w) : Calls Tryd.prog 8 #[] w fun e w' => e = .returned (.bool true) ∧ Below w.heap.size w w' := by
  have C1 := fun w hK => check_any (some ⟨w.heap.size, 0, none⟩) 1 1 wk1 (w.alloc (.cells #[.int .u16 6, .int .u8 0, .int .u8 0, .int .u32 0] 42)) hK (ri_wk1 w)
  have C0 := fun w hK => check_any none 0 0 wk1 w hK (fun k hk => absurd hk (by omega))
  have C3 := fun w hK => check_any (some ⟨w.heap.size, 0, none⟩) 3 3 wk3 (w.alloc (.cells #[.int .u16 21, .int .u8 0, .int .u8 1, .int .u32 0, .int .u16 6, .int .u8 0, .int .u8 0, .int .u32 0, .int .u16 4, .int .u8 0, .int .u8 0, .int .u32 0] 42)) hK (ri_wk3 w)
  have C4 := fun w hK => next_any (21, 0, 1, 0) 0 w hK (by constructor <;> simp)
  rw [chk_wk1] at C1
  rw [chk_wk0] at C0
  rw [chk_wk3] at C3
  rw [next_wk] at C4
  simp only [valI, insV] at C1 C0 C3 C4
  go_enter Tryd.func8, Tryd.ntmps8
  go_wp2_with fail
  have D1 := C1 (w.alloc (.cells #[.int .u16 6, .int .u8 0, .int .u8 0, .int .u32 0] 42)) ((hK.alloc _).alloc _)
  rw [World.size_alloc] at D1
  refine D1.mono ?_
  rintro e w1 ⟨rfl, hb⟩
  have B1 := (((Below.refl w.heap.size w).alloc (Nat.le_refl _) (.cells #[.int .u16 6, .int .u8 0, .int .u8 0, .int .u32 0] 42)).alloc (by simp) (.cells #[.int .u16 6, .int .u8 0, .int .u8 0, .int .u32 0] 42)).trans (hb.mono (by simp; omega))
  have x0 := (hb.cell (p := ⟨w.heap.size, 0, none⟩) (by simp; omega)).trans (show _ = some (Value.int .u16 6) by simp)
  have x1 := (hb.cell (p := ⟨w.heap.size, 1, none⟩) (by simp; omega)).trans (show _ = some (Value.int .u8 0) by simp)
  have x2 := (hb.cell (p := ⟨w.heap.size, 2, none⟩) (by simp; omega)).trans (show _ = some (Value.int .u8 0) by simp)
  have x3 := (hb.cell (p := ⟨w.heap.size, 3, none⟩) (by simp; omega)).trans (show _ = some (Value.int .u32 0) by simp)
  have K1 := hK.below B1 hK.pos
  clear hb D1 C1 hK
  go_wp2_with fail
  refine (C0 w1 K1).mono ?_
  rintro e w2 ⟨rfl, hb⟩
  replace x0 := (hb.cell (p := ⟨w.heap.size, 0, none⟩) (World.block_lt_of_cell? _ _ x0)).trans x0
  replace x1 := (hb.cell (p := ⟨w.heap.size, 1, none⟩) (World.block_lt_of_cell? _ _ x1)).trans x1
  replace x2 := (hb.cell (p := ⟨w.heap.size, 2, none⟩) (World.block_lt_of_cell? _ _ x2)).trans x2
  replace x3 := (hb.cell (p := ⟨w.heap.size, 3, none⟩) (World.block_lt_of_cell? _ _ x3)).trans x3
  replace B1 := B1.trans (hb.mono B1.size)
  replace K1 := K1.below hb K1.pos
  clear hb C0
  go_wp2_with fail
  refine (C3 w2 (K1.alloc _)).mono ?_
  rintro e w3 ⟨rfl, hb⟩
  replace B1 := (B1.alloc B1.size _).trans (hb.mono (by simp; have := B1.size; omega))
  replace K1 := (K1.alloc _).below hb (K1.alloc _).pos
  clear hb C3 x0 x1 x2 x3
  go_wp2_with fail
  refine (C4 w3 K1).mono ?_
  rintro e w4 ⟨A, c, rfl, hc, hr, hb⟩
  replace B1 := B1.trans (hb.mono B1.size)
  clear hb C4 K1
  simp only [List.length_cons, List.length_nil, Nat.zero_add, Nat.reduceAdd] at hc
  go_wp2_with fail
  have hr' := hr.below ((Below.refl w4.heap.size w4).alloc (Nat.le_refl _) (.cells #[.int .i64 1, .int .i64 2] 3)) (Nat.le_refl _)
  refine (sameints_true A (some ⟨w4.heap.size, 0, none⟩) 2 2 c 2 _ _ [1, 2] _ hr' (rn_two w4 1 2 1 2 rfl rfl) rfl rfl (by decide)).mono ?_
  rintro e w5 ⟨rfl, hb⟩
  replace B1 := (B1.alloc B1.size _).trans (hb.mono (by simp; have := B1.size; omega))
  go_wp2_with fail
  go_ret
  exact ⟨rfl, B1⟩
end Go.Proofs.YtgepeckdafeedaaDoor
