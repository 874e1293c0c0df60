/-
  vm.Step, walked: what it answers where it does no step.
-/
import Derived.Test.YtepkhkfdokinmaaDoorVmSt
namespace Go.Proofs.YtepkhkfdokinmaaDoor
open Go.RowKit
set_option linter.unusedVariables false

set_option maxRecDepth 100000 in
set_option maxHeartbeats 2000000 in
theorem stepSt_no (A : Option Addr) (m cap : Nat) (f : Nat → Ins) (d : Dat) (p a x : Int) (mem : List Int) (hl : mem.length = 16) (w : World) (hK : Kinds w) (hA : Ri w w.heap.size A m f) (r1 r2 : Int) (hr : chkI f m = (r1, r2)) (h0 : ¬ r2 = 0) :
    Calls Tryd.prog 13 #[.slice A m cap, datV d, .agg (mcC p a x mem)] w fun e w' => e = .returned (.tuple #[.agg (vmC vm0), .int .u32 0, .bool false, .int .i64 r2]) ∧ Below w.heap.size w w' := by
  have B0 := (((Below.refl w.heap.size w).alloc (Nat.le_refl _) (.cells (datC d) 32)).alloc (by simp) (.cells (mcC p a x mem) 35)).alloc (by simp; omega) (.cells zerL 35)
  have hC := check_any A m cap f _ (hK.below B0 hK.pos) ((hA.below B0 (Nat.le_refl _)).more B0.size)
  rw [hr] at hC
  clear hr
  have kz := Blk.new_ ((w.alloc (.cells (datC d) 32)).alloc (.cells (mcC p a x mem) 35)) zerL 35 (n := w.heap.size + 1 + 1) (by simp)
  have e0 : vmC vm0 = zerL := zer_lit.symm
  unfold datV
  rw [e0]
  go_enter Tryd.func13, Tryd.ntmps13
  go_wp2_with fail
  refine hC.mono ?_
  rintro e w1 ⟨rfl, b1⟩
  replace kz := kz.below b1 kz.lt
  have B1 := B0.trans (b1.mono B0.size)
  clear hC b1 B0
  go_wp2_with (refine wpList_store_blk rfl 35 (.tmp 6) (.tmp 22) rfl (w.heap.size + 1 + 1) _ _ 35 rfl rfl kz rfl vm_info19 (by simp [Value.oneCell']) ?_; intro w9 hw9 hn9)
  refine bodyPost_ret (v := .tuple #[.agg zerL, .int .u32 0, .bool false, .int .i64 r2]) (results_row_three rfl _ _ (w.heap.size + 1 + 1) 35 zerL (0, 0) _ rfl hw9.blk Tryd.underlying35 rfl vm_info19 _ _ _ rfl rfl rfl) rfl ?_
  exact ⟨rfl, B1.trans (hn9.below _ (by omega) B1.size)⟩

set_option maxRecDepth 100000 in
set_option maxHeartbeats 2000000 in
theorem stepSt_arg (A : Option Addr) (m cap : Nat) (f : Nat → Ins) (d : Dat) (p a x : Int) (mem : List Int) (hl : mem.length = 16) (w : World) (hK : Kinds w) (hA : Ri w w.heap.size A m f) (hM : May f m) (hp : p < 0 ∨ (m : Int) ≤ p) :
    Calls Tryd.prog 13 #[.slice A m cap, datV d, .agg (mcC p a x mem)] w fun e w' => e = .returned (.tuple #[.agg (vmC vm0), .int .u32 0, .bool false, .int .i64 2]) ∧ Below w.heap.size w w' := by
  have B0 := (((Below.refl w.heap.size w).alloc (Nat.le_refl _) (.cells (datC d) 32)).alloc (by simp) (.cells (mcC p a x mem) 35)).alloc (by simp; omega) (.cells zerL 35)
  have hC := check_any A m cap f _ (hK.below B0 hK.pos) ((hA.below B0 (Nat.le_refl _)).more B0.size)
  rw [chk_may hM] at hC
  have km := (Blk.new_ (w.alloc (.cells (datC d) 32)) (mcC p a x mem) 35 (n := w.heap.size + 1) (by simp)).alloc (.cells zerL 35)
  have kz := Blk.new_ ((w.alloc (.cells (datC d) 32)).alloc (.cells (mcC p a x mem) 35)) zerL 35 (n := w.heap.size + 1 + 1) (by simp)
  have e0 : vmC vm0 = zerL := zer_lit.symm
  have hm64 := hM.hi
  unfold datV
  rw [e0]
  go_enter Tryd.func13, Tryd.ntmps13
  go_wp2_with fail
  refine hC.mono ?_
  rintro e w1 ⟨rfl, b1⟩
  replace kz := kz.below b1 kz.lt
  replace km := km.below b1 km.lt
  have c0 := (km.cell 0).trans mc_0
  have B1 := B0.trans (b1.mono B0.size)
  clear hC b1 B0
  by_cases h1 : p < 0
  · go_wp2_with (refine wpList_store_blk rfl 35 (.tmp 6) (.tmp 34) rfl (w.heap.size + 1 + 1) _ _ 35 rfl rfl kz rfl vm_info19 (by simp [Value.oneCell']) ?_; intro w9 hw9 hn9)
    refine bodyPost_ret (v := .tuple #[.agg zerL, .int .u32 0, .bool false, .int .i64 2]) (results_row_three rfl _ _ (w.heap.size + 1 + 1) 35 zerL (0, 0) _ rfl hw9.blk Tryd.underlying35 rfl vm_info19 _ _ _ rfl rfl rfl) rfl ?_
    exact ⟨rfl, B1.trans (hn9.below _ (by omega) B1.size)⟩
  · have h2 : p ≥ (m : Int) := by omega
    go_wp2_with (refine wpList_store_blk rfl 35 (.tmp 6) (.tmp 34) rfl (w.heap.size + 1 + 1) _ _ 35 rfl rfl kz rfl vm_info19 (by simp [Value.oneCell']) ?_; intro w9 hw9 hn9)
    refine bodyPost_ret (v := .tuple #[.agg zerL, .int .u32 0, .bool false, .int .i64 2]) (results_row_three rfl _ _ (w.heap.size + 1 + 1) 35 zerL (0, 0) _ rfl hw9.blk Tryd.underlying35 rfl vm_info19 _ _ _ rfl rfl rfl) rfl ?_
    exact ⟨rfl, B1.trans (hn9.below _ (by omega) B1.size)⟩
end Go.Proofs.YtepkhkfdokinmaaDoor
