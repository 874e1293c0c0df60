/-
  The reference's Step, walked, code by code.
-/
import Derived.Test.YtepkhkfdokinmaaDoorVmSt
import Derived.Test.YtepkhkfdokinmaaDoorVmRA
import Derived.Test.YtepkhkfdokinmaaDoorGH
import Derived.Test.YtepkhkfdokinmaaDoorGI
namespace Go.Proofs.YtepkhkfdokinmaaDoor
open Go.RowKit
set_option linter.unusedVariables false

theorem cel_ok (q : Ins) : (celI q).toArray.all (·.oneCell') = true := by simp [celI, Value.oneCell']
/-- What the reference's Step has made for itself. -/
structure RI (w V : World) (q : Ins) (d : Dat) (p a x : Int) (mem : List Int) (r : Array Value) : Prop where
  kd : Blk V w.heap.size (datC d) 32
  km : Blk V (w.heap.size + 1) (mcC p a x mem) 35
  kz : Blk V (w.heap.size + 1 + 1) r 35
  ki : Blk V (w.heap.size + 1 + 1 + 1) (celI q).toArray 54
  old : Below w.heap.size w V
section
variable {w V V' : World} {q : Ins} {d : Dat} {p a x : Int} {mem : List Int} {r r' t t' : Array Value} {g : Nat}
theorem RI.below (h : RI w V q d p a x mem r) (hb : Below V.heap.size V V') : RI w V' q d p a x mem r := ⟨h.kd.below hb h.kd.lt, h.km.below hb h.km.lt, h.kz.below hb h.kz.lt, h.ki.below hb h.ki.lt, h.old.trans (hb.mono h.old.size)⟩
theorem RI.but (h : RI w V q d p a x mem r) (n : But g V V') (hg : w.heap.size + 1 + 1 + 1 < g) : RI w V' q d p a x mem r :=
  ⟨But.blk' n h.kd (by omega), But.blk' n h.km (by omega), But.blk' n h.kz (by omega), But.blk' n h.ki (by omega), h.old.trans (n.below _ (by omega) h.old.size)⟩
theorem RI.out (h : RI w V q d p a x mem r) (n : But (w.heap.size + 1 + 1) V V') (k : Blk V' (w.heap.size + 1 + 1) r' 35) : RI w V' q d p a x mem r' :=
  ⟨But.blk' n h.kd (by omega), But.blk' n h.km (by omega), k, But.blk' n h.ki (by omega), h.old.trans (n.below _ (by omega) h.old.size)⟩
/-- .. and the machine behind. -/
structure RJ (w V : World) (g : Nat) (q : Ins) (d : Dat) (p a x : Int) (mem : List Int) (r t : Array Value) : Prop where
  j : RI w V q d p a x mem r
  kt : Blk V g t 35
  hg : w.heap.size + 1 + 1 + 1 < g
theorem RJ.below (h : RJ w V g q d p a x mem r t) (hb : Below V.heap.size V V') : RJ w V' g q d p a x mem r t := ⟨h.j.below hb, h.kt.below hb h.kt.lt, h.hg⟩
theorem RJ.set_ (h : RJ w V g q d p a x mem r t) (k : Nat) (u : Value) (hu : t.setIfInBounds k u = t') : RJ w (V.setCell ⟨g, k, none⟩ u) g q d p a x mem r t' := by
  subst hu
  have n : But g V (V.setCell ⟨g, k, none⟩ u) := But.setCell (But.refl _ _) (p := ⟨g, k, none⟩) (.inl rfl) u
  exact ⟨h.j.but n h.hg, h.kt.set_ k u, h.hg⟩
end

set_option maxRecDepth 100000 in
set_option maxHeartbeats 4000000 in
theorem rstep_4 (y z k : Int) (A : Option Addr) (m cap : Nat) (f : Nat → Ins) (d : Dat) (hd : DatOk d) (s : VmS) (hok : VmOk s) (w : World) (hA : Ri w w.heap.size A m f) (hcap : m ≤ cap) (hm : m ≤ 64) (hs : s.pc < m) (hf : f s.pc = (4, y, z, k)) (hv2 : aluB 4 s.a k = true) :
    Calls Tryd.prog 16 #[.slice A m cap, datV d, vmV s] w fun e w' => e = .returned (.tuple #[.agg (vmC ⟨s.pc + 1, aluV 4 s.a k, s.x, s.mem⟩), .int .u32 0, .bool false]) ∧ Below w.heap.size w w' := by
  have hspc : (s.pc : Int) < m := by omega
  have ho := hA.ok s.pc hs
  rw [hf] at ho
  obtain ⟨b, off, rfl, hbl, pI, _⟩ := hA s.pc hs
  rw [hf] at pI
  simp only at pI
  have kd := ((Blk.new w (datC d) 32).alloc (.cells (vmC s) 35)).alloc (.cells zerL 35)
  have km := (Blk.new_ (w.alloc (.cells (datC d) 32)) (vmC s) 35 (n := w.heap.size + 1) (by simp)).alloc (.cells zerL 35)
  have kz := Blk.new_ ((w.alloc (.cells (datC d) 32)).alloc (.cells (vmC s) 35)) zerL 35 (n := w.heap.size + 1 + 1) (by simp)
  have B0 := (((Below.refl w.heap.size w).alloc (Nat.le_refl _) (.cells (datC d) 32)).alloc (by simp) (.cells (vmC s) 35)).alloc (by simp; omega) (.cells zerL 35)
  have c0 := (km.cell 0).trans mc_0
  obtain ⟨q0, q1, q2, q3⟩ := ri_at B0 hbl pI
  have N := fun V => refname_any 4 V (by decide)
  rw [show nameOf 4 = (⟨#[97, 100, 100, 46, 107]⟩, true) by kernel_rfl] at N
  have SP := fun V => split_any [97, 100, 100, 46, 107] (by decide) V
  rw [show headOf [97, 100, 100, 46, 107] = [97, 100, 100] by decide, show tailOf [97, 100, 100, 46, 107] = [107] by decide] at SP
  have AL := fun V => refalu_any 4 s.a k (by decide) (by decide) hok.a ⟨ho.k0, ho.k1⟩ V
  obtain ⟨v, hv⟩ : ∃ v, aluV 4 s.a k = v := ⟨_, rfl⟩
  rw [hv, hv2] at AL
  rw [hv]
  clear hv hv2
  obtain ⟨pc, a, x, mem⟩ := s
  have hl : mem.length = 16 := hok.len
  simp only [vmC] at kd km kz B0 c0 q0 q1 q2 q3 ⊢
  simp only at AL hspc hs hf ho
  unfold zerL at kd km kz B0 c0 q0 q1 q2 q3
  have hka : (0 : Int) ≤ pc := by omega
  unfold datV vmV
  simp only [vmC]
  go_enter Tryd.func16, Tryd.ntmps16
  go_wp2_with (refine wpList_store_blk rfl 54 (.tmp 9) (.tmp 23) rfl (w.heap.size + 1 + 1 + 1) _ (celI (4, y, z, k)).toArray 54 rfl rfl (Blk.new_ _ _ _ (by simp)) rfl (cel_inf _) (cel_ok _) ?_
               intro w2 hF2 hn2
               have J2 : RI w w2 (4, y, z, k) d pc a x mem zerL := ⟨But.blk' hn2 (kd.alloc _) (by omega), But.blk' hn2 (km.alloc _) (by omega), But.blk' hn2 (kz.alloc _) (by omega), hF2, (B0.alloc B0.size _).trans (hn2.below _ (by omega) (by simp; omega))⟩
               have i0 : w2.cell? ⟨w.heap.size + 1 + 1 + 1, 0, none⟩ = some (.int .u16 4) := hF2.cell 0
               clear hF2 hn2 kd km kz B0 c0 q0 q1 q2 q3)
  refine (N _).mono ?_
  rintro e w3 ⟨rfl, b3⟩
  have J3 := J2.below b3
  clear b3 J2 i0 N
  go_wp2_with fail
  refine (SP _).mono ?_
  rintro e w4 ⟨rfl, b4⟩
  have J4 := J3.below b4
  have i3 : w4.cell? ⟨w.heap.size + 1 + 1 + 1, 3, none⟩ = some (.int .u32 k) := J4.ki.cell 3
  have c0 := (J4.km.cell 0).trans mc_0
  clear b4 J3 SP
  go_wp2_with (first
    | (refine wpList_load_row rfl 35 (.tmp 5) rfl (w.heap.size + 1) rfl 35 (mcC pc a x mem) (0, 0) _ J4.km.blk Tryd.underlying35 rfl (mc_inf hl) ?_)
    | (refine wpList_store_blk rfl 35 (.tmp 15) (.tmp 41) rfl w4.heap.size _ (mcC pc a x mem) 35 rfl rfl (Blk.new_ _ _ _ rfl) (vm_z19 hl) (mc_inf hl) mc_one ?_
       intro w5 hF5 hn5
       have b5 : Below w4.heap.size w4 w5 := ((Below.refl _ w4).alloc (Nat.le_refl _) _).trans (hn5.below _ (Nat.le_refl _) (by simp))
       have J5 : RJ w w5 w4.heap.size (4, y, z, k) d pc a x mem zerL (mcC pc a x mem) := ⟨J4.below b5, hF5, J4.ki.lt⟩
       have J6 := Lib.hid (J5.set_ 0 (.int .i64 (pc + 1)) (mc_s0 (pc + 1)))
       have c5 := (J5.j.km.cell 0).trans mc_0
       have t0 := (J5.kt.cell 0).trans mc_0
       have f0 := J5.kt.frozen 0
       have i5 : (w5.setCell ⟨w4.heap.size, 0, none⟩ (.int .i64 (pc + 1))).cell? ⟨w.heap.size + 1 + 1 + 1, 0, none⟩ = some (.int .u16 4) := J6.out.j.ki.cell 0
       have a5 := (J6.out.j.km.cell 1).trans mc_1
       clear hn5 hF5 b5 J5 c0 i3 J4))
  refine (AL _).mono ?_
  rintro e w6 ⟨rfl, hw6⟩
  subst w6
  have JJ := J6.out
  clear J6 i5 a5 t0 f0 c5 AL
  generalize w5.setCell ⟨w4.heap.size, 0, none⟩ (.int .i64 (pc + 1)) = V at JJ ⊢
  have t1 := (JJ.kt.cell 1).trans mc_1
  have f1 := JJ.kt.frozen 1
  have J7 := Lib.hid (JJ.set_ 1 (.int .u32 v) (mc_s1 v))
  clear JJ
  go_wp2_with (first
    | (refine wpList_load_row rfl 35 (.tmp 15) rfl w4.heap.size rfl 35 (mcC (pc + 1) v x mem) (0, 0) _ J7.out.kt.blk Tryd.underlying35 rfl (mc_inf hl) ?_)
    | (refine wpList_store_blk rfl 35 (.tmp 6) (.tmp 161) rfl (w.heap.size + 1 + 1) _ (mcC (pc + 1) v x mem) 35 rfl rfl J7.out.j.kz (vm_z19 hl) (mc_inf hl) mc_one ?_; intro w9 hw9 hn9))
  refine bodyPost_ret (v := .tuple #[.agg (mcC (pc + 1) v x mem), .int .u32 0, .bool false]) (results_row_two rfl _ _ (w.heap.size + 1 + 1) 35 (mcC (pc + 1) v x mem) (0, 0) _ rfl hw9.blk Tryd.underlying35 rfl (mc_inf hl) _ _ rfl rfl) rfl ?_
  exact ⟨rfl, (J7.out.j.out hn9 hw9).old⟩

set_option maxRecDepth 100000 in
set_option maxHeartbeats 4000000 in
theorem rstep_12 (y z k : Int) (A : Option Addr) (m cap : Nat) (f : Nat → Ins) (d : Dat) (hd : DatOk d) (s : VmS) (hok : VmOk s) (w : World) (hA : Ri w w.heap.size A m f) (hcap : m ≤ cap) (hm : m ≤ 64) (hs : s.pc < m) (hf : f s.pc = (12, y, z, k)) (hv2 : aluB 12 s.a s.x = true) :
    Calls Tryd.prog 16 #[.slice A m cap, datV d, vmV s] w fun e w' => e = .returned (.tuple #[.agg (vmC ⟨s.pc + 1, aluV 12 s.a s.x, s.x, s.mem⟩), .int .u32 0, .bool false]) ∧ Below w.heap.size w w' := by
  have hspc : (s.pc : Int) < m := by omega
  have ho := hA.ok s.pc hs
  rw [hf] at ho
  obtain ⟨b, off, rfl, hbl, pI, _⟩ := hA s.pc hs
  rw [hf] at pI
  simp only at pI
  have kd := ((Blk.new w (datC d) 32).alloc (.cells (vmC s) 35)).alloc (.cells zerL 35)
  have km := (Blk.new_ (w.alloc (.cells (datC d) 32)) (vmC s) 35 (n := w.heap.size + 1) (by simp)).alloc (.cells zerL 35)
  have kz := Blk.new_ ((w.alloc (.cells (datC d) 32)).alloc (.cells (vmC s) 35)) zerL 35 (n := w.heap.size + 1 + 1) (by simp)
  have B0 := (((Below.refl w.heap.size w).alloc (Nat.le_refl _) (.cells (datC d) 32)).alloc (by simp) (.cells (vmC s) 35)).alloc (by simp; omega) (.cells zerL 35)
  have c0 := (km.cell 0).trans mc_0
  obtain ⟨q0, q1, q2, q3⟩ := ri_at B0 hbl pI
  have N := fun V => refname_any 12 V (by decide)
  rw [show nameOf 12 = (⟨#[97, 100, 100, 46, 120]⟩, true) by kernel_rfl] at N
  have SP := fun V => split_any [97, 100, 100, 46, 120] (by decide) V
  rw [show headOf [97, 100, 100, 46, 120] = [97, 100, 100] by decide, show tailOf [97, 100, 100, 46, 120] = [120] by decide] at SP
  have AL := fun V => refalu_any 12 s.a s.x (by decide) (by decide) hok.a hok.x V
  obtain ⟨v, hv⟩ : ∃ v, aluV 12 s.a s.x = v := ⟨_, rfl⟩
  rw [hv, hv2] at AL
  rw [hv]
  clear hv hv2
  obtain ⟨pc, a, x, mem⟩ := s
  have hl : mem.length = 16 := hok.len
  simp only [vmC] at kd km kz B0 c0 q0 q1 q2 q3 ⊢
  simp only at AL hspc hs hf ho
  unfold zerL at kd km kz B0 c0 q0 q1 q2 q3
  have hka : (0 : Int) ≤ pc := by omega
  unfold datV vmV
  simp only [vmC]
  go_enter Tryd.func16, Tryd.ntmps16
  go_wp2_with (refine wpList_store_blk rfl 54 (.tmp 9) (.tmp 23) rfl (w.heap.size + 1 + 1 + 1) _ (celI (12, y, z, k)).toArray 54 rfl rfl (Blk.new_ _ _ _ (by simp)) rfl (cel_inf _) (cel_ok _) ?_
               intro w2 hF2 hn2
               have J2 : RI w w2 (12, y, z, k) d pc a x mem zerL := ⟨But.blk' hn2 (kd.alloc _) (by omega), But.blk' hn2 (km.alloc _) (by omega), But.blk' hn2 (kz.alloc _) (by omega), hF2, (B0.alloc B0.size _).trans (hn2.below _ (by omega) (by simp; omega))⟩
               have i0 : w2.cell? ⟨w.heap.size + 1 + 1 + 1, 0, none⟩ = some (.int .u16 12) := hF2.cell 0
               clear hF2 hn2 kd km kz B0 c0 q0 q1 q2 q3)
  refine (N _).mono ?_
  rintro e w3 ⟨rfl, b3⟩
  have J3 := J2.below b3
  clear b3 J2 i0 N
  go_wp2_with fail
  refine (SP _).mono ?_
  rintro e w4 ⟨rfl, b4⟩
  have J4 := J3.below b4
  have i3 : w4.cell? ⟨w.heap.size + 1 + 1 + 1, 3, none⟩ = some (.int .u32 k) := J4.ki.cell 3
  have c0 := (J4.km.cell 0).trans mc_0
  have x0 : w4.cell? ⟨w.heap.size + 1, 2, none⟩ = some (.int .u32 x) := (J4.km.cell 2).trans mc_2
  clear b4 J3 SP
  go_wp2_with (first
    | (refine wpList_load_row rfl 35 (.tmp 5) rfl (w.heap.size + 1) rfl 35 (mcC pc a x mem) (0, 0) _ J4.km.blk Tryd.underlying35 rfl (mc_inf hl) ?_)
    | (refine wpList_store_blk rfl 35 (.tmp 15) (.tmp 41) rfl w4.heap.size _ (mcC pc a x mem) 35 rfl rfl (Blk.new_ _ _ _ rfl) (vm_z19 hl) (mc_inf hl) mc_one ?_
       intro w5 hF5 hn5
       have b5 : Below w4.heap.size w4 w5 := ((Below.refl _ w4).alloc (Nat.le_refl _) _).trans (hn5.below _ (Nat.le_refl _) (by simp))
       have J5 : RJ w w5 w4.heap.size (12, y, z, k) d pc a x mem zerL (mcC pc a x mem) := ⟨J4.below b5, hF5, J4.ki.lt⟩
       have J6 := Lib.hid (J5.set_ 0 (.int .i64 (pc + 1)) (mc_s0 (pc + 1)))
       have c5 := (J5.j.km.cell 0).trans mc_0
       have t0 := (J5.kt.cell 0).trans mc_0
       have f0 := J5.kt.frozen 0
       have i5 : (w5.setCell ⟨w4.heap.size, 0, none⟩ (.int .i64 (pc + 1))).cell? ⟨w.heap.size + 1 + 1 + 1, 0, none⟩ = some (.int .u16 12) := J6.out.j.ki.cell 0
       have a5 := (J6.out.j.km.cell 1).trans mc_1
       clear hn5 hF5 b5 J5 c0 x0 i3 J4))
  refine (AL _).mono ?_
  rintro e w6 ⟨rfl, hw6⟩
  subst w6
  have JJ := J6.out
  clear J6 i5 a5 t0 f0 c5 AL
  generalize w5.setCell ⟨w4.heap.size, 0, none⟩ (.int .i64 (pc + 1)) = V at JJ ⊢
  have t1 := (JJ.kt.cell 1).trans mc_1
  have f1 := JJ.kt.frozen 1
  have J7 := Lib.hid (JJ.set_ 1 (.int .u32 v) (mc_s1 v))
  clear JJ
  go_wp2_with (first
    | (refine wpList_load_row rfl 35 (.tmp 15) rfl w4.heap.size rfl 35 (mcC (pc + 1) v x mem) (0, 0) _ J7.out.kt.blk Tryd.underlying35 rfl (mc_inf hl) ?_)
    | (refine wpList_store_blk rfl 35 (.tmp 6) (.tmp 161) rfl (w.heap.size + 1 + 1) _ (mcC (pc + 1) v x mem) 35 rfl rfl J7.out.j.kz (vm_z19 hl) (mc_inf hl) mc_one ?_; intro w9 hw9 hn9))
  refine bodyPost_ret (v := .tuple #[.agg (mcC (pc + 1) v x mem), .int .u32 0, .bool false]) (results_row_two rfl _ _ (w.heap.size + 1 + 1) 35 (mcC (pc + 1) v x mem) (0, 0) _ rfl hw9.blk Tryd.underlying35 rfl (mc_inf hl) _ _ rfl rfl) rfl ?_
  exact ⟨rfl, (J7.out.j.out hn9 hw9).old⟩

set_option maxRecDepth 100000 in
set_option maxHeartbeats 4000000 in
theorem rstep_20 (y z k : Int) (A : Option Addr) (m cap : Nat) (f : Nat → Ins) (d : Dat) (hd : DatOk d) (s : VmS) (hok : VmOk s) (w : World) (hA : Ri w w.heap.size A m f) (hcap : m ≤ cap) (hm : m ≤ 64) (hs : s.pc < m) (hf : f s.pc = (20, y, z, k)) (hv2 : aluB 20 s.a k = true) :
    Calls Tryd.prog 16 #[.slice A m cap, datV d, vmV s] w fun e w' => e = .returned (.tuple #[.agg (vmC ⟨s.pc + 1, aluV 20 s.a k, s.x, s.mem⟩), .int .u32 0, .bool false]) ∧ Below w.heap.size w w' := by
  have hspc : (s.pc : Int) < m := by omega
  have ho := hA.ok s.pc hs
  rw [hf] at ho
  obtain ⟨b, off, rfl, hbl, pI, _⟩ := hA s.pc hs
  rw [hf] at pI
  simp only at pI
  have kd := ((Blk.new w (datC d) 32).alloc (.cells (vmC s) 35)).alloc (.cells zerL 35)
  have km := (Blk.new_ (w.alloc (.cells (datC d) 32)) (vmC s) 35 (n := w.heap.size + 1) (by simp)).alloc (.cells zerL 35)
  have kz := Blk.new_ ((w.alloc (.cells (datC d) 32)).alloc (.cells (vmC s) 35)) zerL 35 (n := w.heap.size + 1 + 1) (by simp)
  have B0 := (((Below.refl w.heap.size w).alloc (Nat.le_refl _) (.cells (datC d) 32)).alloc (by simp) (.cells (vmC s) 35)).alloc (by simp; omega) (.cells zerL 35)
  have c0 := (km.cell 0).trans mc_0
  obtain ⟨q0, q1, q2, q3⟩ := ri_at B0 hbl pI
  have N := fun V => refname_any 20 V (by decide)
  rw [show nameOf 20 = (⟨#[115, 117, 98, 46, 107]⟩, true) by kernel_rfl] at N
  have SP := fun V => split_any [115, 117, 98, 46, 107] (by decide) V
  rw [show headOf [115, 117, 98, 46, 107] = [115, 117, 98] by decide, show tailOf [115, 117, 98, 46, 107] = [107] by decide] at SP
  have AL := fun V => refalu_any 20 s.a k (by decide) (by decide) hok.a ⟨ho.k0, ho.k1⟩ V
  obtain ⟨v, hv⟩ : ∃ v, aluV 20 s.a k = v := ⟨_, rfl⟩
  rw [hv, hv2] at AL
  rw [hv]
  clear hv hv2
  obtain ⟨pc, a, x, mem⟩ := s
  have hl : mem.length = 16 := hok.len
  simp only [vmC] at kd km kz B0 c0 q0 q1 q2 q3 ⊢
  simp only at AL hspc hs hf ho
  unfold zerL at kd km kz B0 c0 q0 q1 q2 q3
  have hka : (0 : Int) ≤ pc := by omega
  unfold datV vmV
  simp only [vmC]
  go_enter Tryd.func16, Tryd.ntmps16
  go_wp2_with (refine wpList_store_blk rfl 54 (.tmp 9) (.tmp 23) rfl (w.heap.size + 1 + 1 + 1) _ (celI (20, y, z, k)).toArray 54 rfl rfl (Blk.new_ _ _ _ (by simp)) rfl (cel_inf _) (cel_ok _) ?_
               intro w2 hF2 hn2
               have J2 : RI w w2 (20, y, z, k) d pc a x mem zerL := ⟨But.blk' hn2 (kd.alloc _) (by omega), But.blk' hn2 (km.alloc _) (by omega), But.blk' hn2 (kz.alloc _) (by omega), hF2, (B0.alloc B0.size _).trans (hn2.below _ (by omega) (by simp; omega))⟩
               have i0 : w2.cell? ⟨w.heap.size + 1 + 1 + 1, 0, none⟩ = some (.int .u16 20) := hF2.cell 0
               clear hF2 hn2 kd km kz B0 c0 q0 q1 q2 q3)
  refine (N _).mono ?_
  rintro e w3 ⟨rfl, b3⟩
  have J3 := J2.below b3
  clear b3 J2 i0 N
  go_wp2_with fail
  refine (SP _).mono ?_
  rintro e w4 ⟨rfl, b4⟩
  have J4 := J3.below b4
  have i3 : w4.cell? ⟨w.heap.size + 1 + 1 + 1, 3, none⟩ = some (.int .u32 k) := J4.ki.cell 3
  have c0 := (J4.km.cell 0).trans mc_0
  clear b4 J3 SP
  go_wp2_with (first
    | (refine wpList_load_row rfl 35 (.tmp 5) rfl (w.heap.size + 1) rfl 35 (mcC pc a x mem) (0, 0) _ J4.km.blk Tryd.underlying35 rfl (mc_inf hl) ?_)
    | (refine wpList_store_blk rfl 35 (.tmp 15) (.tmp 41) rfl w4.heap.size _ (mcC pc a x mem) 35 rfl rfl (Blk.new_ _ _ _ rfl) (vm_z19 hl) (mc_inf hl) mc_one ?_
       intro w5 hF5 hn5
       have b5 : Below w4.heap.size w4 w5 := ((Below.refl _ w4).alloc (Nat.le_refl _) _).trans (hn5.below _ (Nat.le_refl _) (by simp))
       have J5 : RJ w w5 w4.heap.size (20, y, z, k) d pc a x mem zerL (mcC pc a x mem) := ⟨J4.below b5, hF5, J4.ki.lt⟩
       have J6 := Lib.hid (J5.set_ 0 (.int .i64 (pc + 1)) (mc_s0 (pc + 1)))
       have c5 := (J5.j.km.cell 0).trans mc_0
       have t0 := (J5.kt.cell 0).trans mc_0
       have f0 := J5.kt.frozen 0
       have i5 : (w5.setCell ⟨w4.heap.size, 0, none⟩ (.int .i64 (pc + 1))).cell? ⟨w.heap.size + 1 + 1 + 1, 0, none⟩ = some (.int .u16 20) := J6.out.j.ki.cell 0
       have a5 := (J6.out.j.km.cell 1).trans mc_1
       clear hn5 hF5 b5 J5 c0 i3 J4))
  refine (AL _).mono ?_
  rintro e w6 ⟨rfl, hw6⟩
  subst w6
  have JJ := J6.out
  clear J6 i5 a5 t0 f0 c5 AL
  generalize w5.setCell ⟨w4.heap.size, 0, none⟩ (.int .i64 (pc + 1)) = V at JJ ⊢
  have t1 := (JJ.kt.cell 1).trans mc_1
  have f1 := JJ.kt.frozen 1
  have J7 := Lib.hid (JJ.set_ 1 (.int .u32 v) (mc_s1 v))
  clear JJ
  go_wp2_with (first
    | (refine wpList_load_row rfl 35 (.tmp 15) rfl w4.heap.size rfl 35 (mcC (pc + 1) v x mem) (0, 0) _ J7.out.kt.blk Tryd.underlying35 rfl (mc_inf hl) ?_)
    | (refine wpList_store_blk rfl 35 (.tmp 6) (.tmp 161) rfl (w.heap.size + 1 + 1) _ (mcC (pc + 1) v x mem) 35 rfl rfl J7.out.j.kz (vm_z19 hl) (mc_inf hl) mc_one ?_; intro w9 hw9 hn9))
  refine bodyPost_ret (v := .tuple #[.agg (mcC (pc + 1) v x mem), .int .u32 0, .bool false]) (results_row_two rfl _ _ (w.heap.size + 1 + 1) 35 (mcC (pc + 1) v x mem) (0, 0) _ rfl hw9.blk Tryd.underlying35 rfl (mc_inf hl) _ _ rfl rfl) rfl ?_
  exact ⟨rfl, (J7.out.j.out hn9 hw9).old⟩

set_option maxRecDepth 100000 in
set_option maxHeartbeats 4000000 in
theorem rstep_28 (y z k : Int) (A : Option Addr) (m cap : Nat) (f : Nat → Ins) (d : Dat) (hd : DatOk d) (s : VmS) (hok : VmOk s) (w : World) (hA : Ri w w.heap.size A m f) (hcap : m ≤ cap) (hm : m ≤ 64) (hs : s.pc < m) (hf : f s.pc = (28, y, z, k)) (hv2 : aluB 28 s.a s.x = true) :
    Calls Tryd.prog 16 #[.slice A m cap, datV d, vmV s] w fun e w' => e = .returned (.tuple #[.agg (vmC ⟨s.pc + 1, aluV 28 s.a s.x, s.x, s.mem⟩), .int .u32 0, .bool false]) ∧ Below w.heap.size w w' := by
  have hspc : (s.pc : Int) < m := by omega
  have ho := hA.ok s.pc hs
  rw [hf] at ho
  obtain ⟨b, off, rfl, hbl, pI, _⟩ := hA s.pc hs
  rw [hf] at pI
  simp only at pI
  have kd := ((Blk.new w (datC d) 32).alloc (.cells (vmC s) 35)).alloc (.cells zerL 35)
  have km := (Blk.new_ (w.alloc (.cells (datC d) 32)) (vmC s) 35 (n := w.heap.size + 1) (by simp)).alloc (.cells zerL 35)
  have kz := Blk.new_ ((w.alloc (.cells (datC d) 32)).alloc (.cells (vmC s) 35)) zerL 35 (n := w.heap.size + 1 + 1) (by simp)
  have B0 := (((Below.refl w.heap.size w).alloc (Nat.le_refl _) (.cells (datC d) 32)).alloc (by simp) (.cells (vmC s) 35)).alloc (by simp; omega) (.cells zerL 35)
  have c0 := (km.cell 0).trans mc_0
  obtain ⟨q0, q1, q2, q3⟩ := ri_at B0 hbl pI
  have N := fun V => refname_any 28 V (by decide)
  rw [show nameOf 28 = (⟨#[115, 117, 98, 46, 120]⟩, true) by kernel_rfl] at N
  have SP := fun V => split_any [115, 117, 98, 46, 120] (by decide) V
  rw [show headOf [115, 117, 98, 46, 120] = [115, 117, 98] by decide, show tailOf [115, 117, 98, 46, 120] = [120] by decide] at SP
  have AL := fun V => refalu_any 28 s.a s.x (by decide) (by decide) hok.a hok.x V
  obtain ⟨v, hv⟩ : ∃ v, aluV 28 s.a s.x = v := ⟨_, rfl⟩
  rw [hv, hv2] at AL
  rw [hv]
  clear hv hv2
  obtain ⟨pc, a, x, mem⟩ := s
  have hl : mem.length = 16 := hok.len
  simp only [vmC] at kd km kz B0 c0 q0 q1 q2 q3 ⊢
  simp only at AL hspc hs hf ho
  unfold zerL at kd km kz B0 c0 q0 q1 q2 q3
  have hka : (0 : Int) ≤ pc := by omega
  unfold datV vmV
  simp only [vmC]
  go_enter Tryd.func16, Tryd.ntmps16
  go_wp2_with (refine wpList_store_blk rfl 54 (.tmp 9) (.tmp 23) rfl (w.heap.size + 1 + 1 + 1) _ (celI (28, y, z, k)).toArray 54 rfl rfl (Blk.new_ _ _ _ (by simp)) rfl (cel_inf _) (cel_ok _) ?_
               intro w2 hF2 hn2
               have J2 : RI w w2 (28, y, z, k) d pc a x mem zerL := ⟨But.blk' hn2 (kd.alloc _) (by omega), But.blk' hn2 (km.alloc _) (by omega), But.blk' hn2 (kz.alloc _) (by omega), hF2, (B0.alloc B0.size _).trans (hn2.below _ (by omega) (by simp; omega))⟩
               have i0 : w2.cell? ⟨w.heap.size + 1 + 1 + 1, 0, none⟩ = some (.int .u16 28) := hF2.cell 0
               clear hF2 hn2 kd km kz B0 c0 q0 q1 q2 q3)
  refine (N _).mono ?_
  rintro e w3 ⟨rfl, b3⟩
  have J3 := J2.below b3
  clear b3 J2 i0 N
  go_wp2_with fail
  refine (SP _).mono ?_
  rintro e w4 ⟨rfl, b4⟩
  have J4 := J3.below b4
  have i3 : w4.cell? ⟨w.heap.size + 1 + 1 + 1, 3, none⟩ = some (.int .u32 k) := J4.ki.cell 3
  have c0 := (J4.km.cell 0).trans mc_0
  have x0 : w4.cell? ⟨w.heap.size + 1, 2, none⟩ = some (.int .u32 x) := (J4.km.cell 2).trans mc_2
  clear b4 J3 SP
  go_wp2_with (first
    | (refine wpList_load_row rfl 35 (.tmp 5) rfl (w.heap.size + 1) rfl 35 (mcC pc a x mem) (0, 0) _ J4.km.blk Tryd.underlying35 rfl (mc_inf hl) ?_)
    | (refine wpList_store_blk rfl 35 (.tmp 15) (.tmp 41) rfl w4.heap.size _ (mcC pc a x mem) 35 rfl rfl (Blk.new_ _ _ _ rfl) (vm_z19 hl) (mc_inf hl) mc_one ?_
       intro w5 hF5 hn5
       have b5 : Below w4.heap.size w4 w5 := ((Below.refl _ w4).alloc (Nat.le_refl _) _).trans (hn5.below _ (Nat.le_refl _) (by simp))
       have J5 : RJ w w5 w4.heap.size (28, y, z, k) d pc a x mem zerL (mcC pc a x mem) := ⟨J4.below b5, hF5, J4.ki.lt⟩
       have J6 := Lib.hid (J5.set_ 0 (.int .i64 (pc + 1)) (mc_s0 (pc + 1)))
       have c5 := (J5.j.km.cell 0).trans mc_0
       have t0 := (J5.kt.cell 0).trans mc_0
       have f0 := J5.kt.frozen 0
       have i5 : (w5.setCell ⟨w4.heap.size, 0, none⟩ (.int .i64 (pc + 1))).cell? ⟨w.heap.size + 1 + 1 + 1, 0, none⟩ = some (.int .u16 28) := J6.out.j.ki.cell 0
       have a5 := (J6.out.j.km.cell 1).trans mc_1
       clear hn5 hF5 b5 J5 c0 x0 i3 J4))
  refine (AL _).mono ?_
  rintro e w6 ⟨rfl, hw6⟩
  subst w6
  have JJ := J6.out
  clear J6 i5 a5 t0 f0 c5 AL
  generalize w5.setCell ⟨w4.heap.size, 0, none⟩ (.int .i64 (pc + 1)) = V at JJ ⊢
  have t1 := (JJ.kt.cell 1).trans mc_1
  have f1 := JJ.kt.frozen 1
  have J7 := Lib.hid (JJ.set_ 1 (.int .u32 v) (mc_s1 v))
  clear JJ
  go_wp2_with (first
    | (refine wpList_load_row rfl 35 (.tmp 15) rfl w4.heap.size rfl 35 (mcC (pc + 1) v x mem) (0, 0) _ J7.out.kt.blk Tryd.underlying35 rfl (mc_inf hl) ?_)
    | (refine wpList_store_blk rfl 35 (.tmp 6) (.tmp 161) rfl (w.heap.size + 1 + 1) _ (mcC (pc + 1) v x mem) 35 rfl rfl J7.out.j.kz (vm_z19 hl) (mc_inf hl) mc_one ?_; intro w9 hw9 hn9))
  refine bodyPost_ret (v := .tuple #[.agg (mcC (pc + 1) v x mem), .int .u32 0, .bool false]) (results_row_two rfl _ _ (w.heap.size + 1 + 1) 35 (mcC (pc + 1) v x mem) (0, 0) _ rfl hw9.blk Tryd.underlying35 rfl (mc_inf hl) _ _ rfl rfl) rfl ?_
  exact ⟨rfl, (J7.out.j.out hn9 hw9).old⟩

set_option maxRecDepth 100000 in
set_option maxHeartbeats 4000000 in
theorem rstep_36 (y z k : Int) (A : Option Addr) (m cap : Nat) (f : Nat → Ins) (d : Dat) (hd : DatOk d) (s : VmS) (hok : VmOk s) (w : World) (hA : Ri w w.heap.size A m f) (hcap : m ≤ cap) (hm : m ≤ 64) (hs : s.pc < m) (hf : f s.pc = (36, y, z, k)) (hv2 : aluB 36 s.a k = true) :
    Calls Tryd.prog 16 #[.slice A m cap, datV d, vmV s] w fun e w' => e = .returned (.tuple #[.agg (vmC ⟨s.pc + 1, aluV 36 s.a k, s.x, s.mem⟩), .int .u32 0, .bool false]) ∧ Below w.heap.size w w' := by
  have hspc : (s.pc : Int) < m := by omega
  have ho := hA.ok s.pc hs
  rw [hf] at ho
  obtain ⟨b, off, rfl, hbl, pI, _⟩ := hA s.pc hs
  rw [hf] at pI
  simp only at pI
  have kd := ((Blk.new w (datC d) 32).alloc (.cells (vmC s) 35)).alloc (.cells zerL 35)
  have km := (Blk.new_ (w.alloc (.cells (datC d) 32)) (vmC s) 35 (n := w.heap.size + 1) (by simp)).alloc (.cells zerL 35)
  have kz := Blk.new_ ((w.alloc (.cells (datC d) 32)).alloc (.cells (vmC s) 35)) zerL 35 (n := w.heap.size + 1 + 1) (by simp)
  have B0 := (((Below.refl w.heap.size w).alloc (Nat.le_refl _) (.cells (datC d) 32)).alloc (by simp) (.cells (vmC s) 35)).alloc (by simp; omega) (.cells zerL 35)
  have c0 := (km.cell 0).trans mc_0
  obtain ⟨q0, q1, q2, q3⟩ := ri_at B0 hbl pI
  have N := fun V => refname_any 36 V (by decide)
  rw [show nameOf 36 = (⟨#[109, 117, 108, 46, 107]⟩, true) by kernel_rfl] at N
  have SP := fun V => split_any [109, 117, 108, 46, 107] (by decide) V
  rw [show headOf [109, 117, 108, 46, 107] = [109, 117, 108] by decide, show tailOf [109, 117, 108, 46, 107] = [107] by decide] at SP
  have AL := fun V => refalu_any 36 s.a k (by decide) (by decide) hok.a ⟨ho.k0, ho.k1⟩ V
  obtain ⟨v, hv⟩ : ∃ v, aluV 36 s.a k = v := ⟨_, rfl⟩
  rw [hv, hv2] at AL
  rw [hv]
  clear hv hv2
  obtain ⟨pc, a, x, mem⟩ := s
  have hl : mem.length = 16 := hok.len
  simp only [vmC] at kd km kz B0 c0 q0 q1 q2 q3 ⊢
  simp only at AL hspc hs hf ho
  unfold zerL at kd km kz B0 c0 q0 q1 q2 q3
  have hka : (0 : Int) ≤ pc := by omega
  unfold datV vmV
  simp only [vmC]
  go_enter Tryd.func16, Tryd.ntmps16
  go_wp2_with (refine wpList_store_blk rfl 54 (.tmp 9) (.tmp 23) rfl (w.heap.size + 1 + 1 + 1) _ (celI (36, y, z, k)).toArray 54 rfl rfl (Blk.new_ _ _ _ (by simp)) rfl (cel_inf _) (cel_ok _) ?_
               intro w2 hF2 hn2
               have J2 : RI w w2 (36, y, z, k) d pc a x mem zerL := ⟨But.blk' hn2 (kd.alloc _) (by omega), But.blk' hn2 (km.alloc _) (by omega), But.blk' hn2 (kz.alloc _) (by omega), hF2, (B0.alloc B0.size _).trans (hn2.below _ (by omega) (by simp; omega))⟩
               have i0 : w2.cell? ⟨w.heap.size + 1 + 1 + 1, 0, none⟩ = some (.int .u16 36) := hF2.cell 0
               clear hF2 hn2 kd km kz B0 c0 q0 q1 q2 q3)
  refine (N _).mono ?_
  rintro e w3 ⟨rfl, b3⟩
  have J3 := J2.below b3
  clear b3 J2 i0 N
  go_wp2_with fail
  refine (SP _).mono ?_
  rintro e w4 ⟨rfl, b4⟩
  have J4 := J3.below b4
  have i3 : w4.cell? ⟨w.heap.size + 1 + 1 + 1, 3, none⟩ = some (.int .u32 k) := J4.ki.cell 3
  have c0 := (J4.km.cell 0).trans mc_0
  clear b4 J3 SP
  go_wp2_with (first
    | (refine wpList_load_row rfl 35 (.tmp 5) rfl (w.heap.size + 1) rfl 35 (mcC pc a x mem) (0, 0) _ J4.km.blk Tryd.underlying35 rfl (mc_inf hl) ?_)
    | (refine wpList_store_blk rfl 35 (.tmp 15) (.tmp 41) rfl w4.heap.size _ (mcC pc a x mem) 35 rfl rfl (Blk.new_ _ _ _ rfl) (vm_z19 hl) (mc_inf hl) mc_one ?_
       intro w5 hF5 hn5
       have b5 : Below w4.heap.size w4 w5 := ((Below.refl _ w4).alloc (Nat.le_refl _) _).trans (hn5.below _ (Nat.le_refl _) (by simp))
       have J5 : RJ w w5 w4.heap.size (36, y, z, k) d pc a x mem zerL (mcC pc a x mem) := ⟨J4.below b5, hF5, J4.ki.lt⟩
       have J6 := Lib.hid (J5.set_ 0 (.int .i64 (pc + 1)) (mc_s0 (pc + 1)))
       have c5 := (J5.j.km.cell 0).trans mc_0
       have t0 := (J5.kt.cell 0).trans mc_0
       have f0 := J5.kt.frozen 0
       have i5 : (w5.setCell ⟨w4.heap.size, 0, none⟩ (.int .i64 (pc + 1))).cell? ⟨w.heap.size + 1 + 1 + 1, 0, none⟩ = some (.int .u16 36) := J6.out.j.ki.cell 0
       have a5 := (J6.out.j.km.cell 1).trans mc_1
       clear hn5 hF5 b5 J5 c0 i3 J4))
  refine (AL _).mono ?_
  rintro e w6 ⟨rfl, hw6⟩
  subst w6
  have JJ := J6.out
  clear J6 i5 a5 t0 f0 c5 AL
  generalize w5.setCell ⟨w4.heap.size, 0, none⟩ (.int .i64 (pc + 1)) = V at JJ ⊢
  have t1 := (JJ.kt.cell 1).trans mc_1
  have f1 := JJ.kt.frozen 1
  have J7 := Lib.hid (JJ.set_ 1 (.int .u32 v) (mc_s1 v))
  clear JJ
  go_wp2_with (first
    | (refine wpList_load_row rfl 35 (.tmp 15) rfl w4.heap.size rfl 35 (mcC (pc + 1) v x mem) (0, 0) _ J7.out.kt.blk Tryd.underlying35 rfl (mc_inf hl) ?_)
    | (refine wpList_store_blk rfl 35 (.tmp 6) (.tmp 161) rfl (w.heap.size + 1 + 1) _ (mcC (pc + 1) v x mem) 35 rfl rfl J7.out.j.kz (vm_z19 hl) (mc_inf hl) mc_one ?_; intro w9 hw9 hn9))
  refine bodyPost_ret (v := .tuple #[.agg (mcC (pc + 1) v x mem), .int .u32 0, .bool false]) (results_row_two rfl _ _ (w.heap.size + 1 + 1) 35 (mcC (pc + 1) v x mem) (0, 0) _ rfl hw9.blk Tryd.underlying35 rfl (mc_inf hl) _ _ rfl rfl) rfl ?_
  exact ⟨rfl, (J7.out.j.out hn9 hw9).old⟩

set_option maxRecDepth 100000 in
set_option maxHeartbeats 4000000 in
theorem rstep_44 (y z k : Int) (A : Option Addr) (m cap : Nat) (f : Nat → Ins) (d : Dat) (hd : DatOk d) (s : VmS) (hok : VmOk s) (w : World) (hA : Ri w w.heap.size A m f) (hcap : m ≤ cap) (hm : m ≤ 64) (hs : s.pc < m) (hf : f s.pc = (44, y, z, k)) (hv2 : aluB 44 s.a s.x = true) :
    Calls Tryd.prog 16 #[.slice A m cap, datV d, vmV s] w fun e w' => e = .returned (.tuple #[.agg (vmC ⟨s.pc + 1, aluV 44 s.a s.x, s.x, s.mem⟩), .int .u32 0, .bool false]) ∧ Below w.heap.size w w' := by
  have hspc : (s.pc : Int) < m := by omega
  have ho := hA.ok s.pc hs
  rw [hf] at ho
  obtain ⟨b, off, rfl, hbl, pI, _⟩ := hA s.pc hs
  rw [hf] at pI
  simp only at pI
  have kd := ((Blk.new w (datC d) 32).alloc (.cells (vmC s) 35)).alloc (.cells zerL 35)
  have km := (Blk.new_ (w.alloc (.cells (datC d) 32)) (vmC s) 35 (n := w.heap.size + 1) (by simp)).alloc (.cells zerL 35)
  have kz := Blk.new_ ((w.alloc (.cells (datC d) 32)).alloc (.cells (vmC s) 35)) zerL 35 (n := w.heap.size + 1 + 1) (by simp)
  have B0 := (((Below.refl w.heap.size w).alloc (Nat.le_refl _) (.cells (datC d) 32)).alloc (by simp) (.cells (vmC s) 35)).alloc (by simp; omega) (.cells zerL 35)
  have c0 := (km.cell 0).trans mc_0
  obtain ⟨q0, q1, q2, q3⟩ := ri_at B0 hbl pI
  have N := fun V => refname_any 44 V (by decide)
  rw [show nameOf 44 = (⟨#[109, 117, 108, 46, 120]⟩, true) by kernel_rfl] at N
  have SP := fun V => split_any [109, 117, 108, 46, 120] (by decide) V
  rw [show headOf [109, 117, 108, 46, 120] = [109, 117, 108] by decide, show tailOf [109, 117, 108, 46, 120] = [120] by decide] at SP
  have AL := fun V => refalu_any 44 s.a s.x (by decide) (by decide) hok.a hok.x V
  obtain ⟨v, hv⟩ : ∃ v, aluV 44 s.a s.x = v := ⟨_, rfl⟩
  rw [hv, hv2] at AL
  rw [hv]
  clear hv hv2
  obtain ⟨pc, a, x, mem⟩ := s
  have hl : mem.length = 16 := hok.len
  simp only [vmC] at kd km kz B0 c0 q0 q1 q2 q3 ⊢
  simp only at AL hspc hs hf ho
  unfold zerL at kd km kz B0 c0 q0 q1 q2 q3
  have hka : (0 : Int) ≤ pc := by omega
  unfold datV vmV
  simp only [vmC]
  go_enter Tryd.func16, Tryd.ntmps16
  go_wp2_with (refine wpList_store_blk rfl 54 (.tmp 9) (.tmp 23) rfl (w.heap.size + 1 + 1 + 1) _ (celI (44, y, z, k)).toArray 54 rfl rfl (Blk.new_ _ _ _ (by simp)) rfl (cel_inf _) (cel_ok _) ?_
               intro w2 hF2 hn2
               have J2 : RI w w2 (44, y, z, k) d pc a x mem zerL := ⟨But.blk' hn2 (kd.alloc _) (by omega), But.blk' hn2 (km.alloc _) (by omega), But.blk' hn2 (kz.alloc _) (by omega), hF2, (B0.alloc B0.size _).trans (hn2.below _ (by omega) (by simp; omega))⟩
               have i0 : w2.cell? ⟨w.heap.size + 1 + 1 + 1, 0, none⟩ = some (.int .u16 44) := hF2.cell 0
               clear hF2 hn2 kd km kz B0 c0 q0 q1 q2 q3)
  refine (N _).mono ?_
  rintro e w3 ⟨rfl, b3⟩
  have J3 := J2.below b3
  clear b3 J2 i0 N
  go_wp2_with fail
  refine (SP _).mono ?_
  rintro e w4 ⟨rfl, b4⟩
  have J4 := J3.below b4
  have i3 : w4.cell? ⟨w.heap.size + 1 + 1 + 1, 3, none⟩ = some (.int .u32 k) := J4.ki.cell 3
  have c0 := (J4.km.cell 0).trans mc_0
  have x0 : w4.cell? ⟨w.heap.size + 1, 2, none⟩ = some (.int .u32 x) := (J4.km.cell 2).trans mc_2
  clear b4 J3 SP
  go_wp2_with (first
    | (refine wpList_load_row rfl 35 (.tmp 5) rfl (w.heap.size + 1) rfl 35 (mcC pc a x mem) (0, 0) _ J4.km.blk Tryd.underlying35 rfl (mc_inf hl) ?_)
    | (refine wpList_store_blk rfl 35 (.tmp 15) (.tmp 41) rfl w4.heap.size _ (mcC pc a x mem) 35 rfl rfl (Blk.new_ _ _ _ rfl) (vm_z19 hl) (mc_inf hl) mc_one ?_
       intro w5 hF5 hn5
       have b5 : Below w4.heap.size w4 w5 := ((Below.refl _ w4).alloc (Nat.le_refl _) _).trans (hn5.below _ (Nat.le_refl _) (by simp))
       have J5 : RJ w w5 w4.heap.size (44, y, z, k) d pc a x mem zerL (mcC pc a x mem) := ⟨J4.below b5, hF5, J4.ki.lt⟩
       have J6 := Lib.hid (J5.set_ 0 (.int .i64 (pc + 1)) (mc_s0 (pc + 1)))
       have c5 := (J5.j.km.cell 0).trans mc_0
       have t0 := (J5.kt.cell 0).trans mc_0
       have f0 := J5.kt.frozen 0
       have i5 : (w5.setCell ⟨w4.heap.size, 0, none⟩ (.int .i64 (pc + 1))).cell? ⟨w.heap.size + 1 + 1 + 1, 0, none⟩ = some (.int .u16 44) := J6.out.j.ki.cell 0
       have a5 := (J6.out.j.km.cell 1).trans mc_1
       clear hn5 hF5 b5 J5 c0 x0 i3 J4))
  refine (AL _).mono ?_
  rintro e w6 ⟨rfl, hw6⟩
  subst w6
  have JJ := J6.out
  clear J6 i5 a5 t0 f0 c5 AL
  generalize w5.setCell ⟨w4.heap.size, 0, none⟩ (.int .i64 (pc + 1)) = V at JJ ⊢
  have t1 := (JJ.kt.cell 1).trans mc_1
  have f1 := JJ.kt.frozen 1
  have J7 := Lib.hid (JJ.set_ 1 (.int .u32 v) (mc_s1 v))
  clear JJ
  go_wp2_with (first
    | (refine wpList_load_row rfl 35 (.tmp 15) rfl w4.heap.size rfl 35 (mcC (pc + 1) v x mem) (0, 0) _ J7.out.kt.blk Tryd.underlying35 rfl (mc_inf hl) ?_)
    | (refine wpList_store_blk rfl 35 (.tmp 6) (.tmp 161) rfl (w.heap.size + 1 + 1) _ (mcC (pc + 1) v x mem) 35 rfl rfl J7.out.j.kz (vm_z19 hl) (mc_inf hl) mc_one ?_; intro w9 hw9 hn9))
  refine bodyPost_ret (v := .tuple #[.agg (mcC (pc + 1) v x mem), .int .u32 0, .bool false]) (results_row_two rfl _ _ (w.heap.size + 1 + 1) 35 (mcC (pc + 1) v x mem) (0, 0) _ rfl hw9.blk Tryd.underlying35 rfl (mc_inf hl) _ _ rfl rfl) rfl ?_
  exact ⟨rfl, (J7.out.j.out hn9 hw9).old⟩

set_option maxRecDepth 100000 in
set_option maxHeartbeats 4000000 in
theorem rstep_52 (y z k : Int) (A : Option Addr) (m cap : Nat) (f : Nat → Ins) (d : Dat) (hd : DatOk d) (s : VmS) (hok : VmOk s) (w : World) (hA : Ri w w.heap.size A m f) (hcap : m ≤ cap) (hm : m ≤ 64) (hs : s.pc < m) (hf : f s.pc = (52, y, z, k)) (hv2 : aluB 52 s.a k = true) :
    Calls Tryd.prog 16 #[.slice A m cap, datV d, vmV s] w fun e w' => e = .returned (.tuple #[.agg (vmC ⟨s.pc + 1, aluV 52 s.a k, s.x, s.mem⟩), .int .u32 0, .bool false]) ∧ Below w.heap.size w w' := by
  have hspc : (s.pc : Int) < m := by omega
  have ho := hA.ok s.pc hs
  rw [hf] at ho
  obtain ⟨b, off, rfl, hbl, pI, _⟩ := hA s.pc hs
  rw [hf] at pI
  simp only at pI
  have kd := ((Blk.new w (datC d) 32).alloc (.cells (vmC s) 35)).alloc (.cells zerL 35)
  have km := (Blk.new_ (w.alloc (.cells (datC d) 32)) (vmC s) 35 (n := w.heap.size + 1) (by simp)).alloc (.cells zerL 35)
  have kz := Blk.new_ ((w.alloc (.cells (datC d) 32)).alloc (.cells (vmC s) 35)) zerL 35 (n := w.heap.size + 1 + 1) (by simp)
  have B0 := (((Below.refl w.heap.size w).alloc (Nat.le_refl _) (.cells (datC d) 32)).alloc (by simp) (.cells (vmC s) 35)).alloc (by simp; omega) (.cells zerL 35)
  have c0 := (km.cell 0).trans mc_0
  obtain ⟨q0, q1, q2, q3⟩ := ri_at B0 hbl pI
  have N := fun V => refname_any 52 V (by decide)
  rw [show nameOf 52 = (⟨#[100, 105, 118, 46, 107]⟩, true) by kernel_rfl] at N
  have SP := fun V => split_any [100, 105, 118, 46, 107] (by decide) V
  rw [show headOf [100, 105, 118, 46, 107] = [100, 105, 118] by decide, show tailOf [100, 105, 118, 46, 107] = [107] by decide] at SP
  have AL := fun V => refalu_any 52 s.a k (by decide) (by decide) hok.a ⟨ho.k0, ho.k1⟩ V
  obtain ⟨v, hv⟩ : ∃ v, aluV 52 s.a k = v := ⟨_, rfl⟩
  rw [hv, hv2] at AL
  rw [hv]
  clear hv hv2
  obtain ⟨pc, a, x, mem⟩ := s
  have hl : mem.length = 16 := hok.len
  simp only [vmC] at kd km kz B0 c0 q0 q1 q2 q3 ⊢
  simp only at AL hspc hs hf ho
  unfold zerL at kd km kz B0 c0 q0 q1 q2 q3
  have hka : (0 : Int) ≤ pc := by omega
  unfold datV vmV
  simp only [vmC]
  go_enter Tryd.func16, Tryd.ntmps16
  go_wp2_with (refine wpList_store_blk rfl 54 (.tmp 9) (.tmp 23) rfl (w.heap.size + 1 + 1 + 1) _ (celI (52, y, z, k)).toArray 54 rfl rfl (Blk.new_ _ _ _ (by simp)) rfl (cel_inf _) (cel_ok _) ?_
               intro w2 hF2 hn2
               have J2 : RI w w2 (52, y, z, k) d pc a x mem zerL := ⟨But.blk' hn2 (kd.alloc _) (by omega), But.blk' hn2 (km.alloc _) (by omega), But.blk' hn2 (kz.alloc _) (by omega), hF2, (B0.alloc B0.size _).trans (hn2.below _ (by omega) (by simp; omega))⟩
               have i0 : w2.cell? ⟨w.heap.size + 1 + 1 + 1, 0, none⟩ = some (.int .u16 52) := hF2.cell 0
               clear hF2 hn2 kd km kz B0 c0 q0 q1 q2 q3)
  refine (N _).mono ?_
  rintro e w3 ⟨rfl, b3⟩
  have J3 := J2.below b3
  clear b3 J2 i0 N
  go_wp2_with fail
  refine (SP _).mono ?_
  rintro e w4 ⟨rfl, b4⟩
  have J4 := J3.below b4
  have i3 : w4.cell? ⟨w.heap.size + 1 + 1 + 1, 3, none⟩ = some (.int .u32 k) := J4.ki.cell 3
  have c0 := (J4.km.cell 0).trans mc_0
  clear b4 J3 SP
  go_wp2_with (first
    | (refine wpList_load_row rfl 35 (.tmp 5) rfl (w.heap.size + 1) rfl 35 (mcC pc a x mem) (0, 0) _ J4.km.blk Tryd.underlying35 rfl (mc_inf hl) ?_)
    | (refine wpList_store_blk rfl 35 (.tmp 15) (.tmp 41) rfl w4.heap.size _ (mcC pc a x mem) 35 rfl rfl (Blk.new_ _ _ _ rfl) (vm_z19 hl) (mc_inf hl) mc_one ?_
       intro w5 hF5 hn5
       have b5 : Below w4.heap.size w4 w5 := ((Below.refl _ w4).alloc (Nat.le_refl _) _).trans (hn5.below _ (Nat.le_refl _) (by simp))
       have J5 : RJ w w5 w4.heap.size (52, y, z, k) d pc a x mem zerL (mcC pc a x mem) := ⟨J4.below b5, hF5, J4.ki.lt⟩
       have J6 := Lib.hid (J5.set_ 0 (.int .i64 (pc + 1)) (mc_s0 (pc + 1)))
       have c5 := (J5.j.km.cell 0).trans mc_0
       have t0 := (J5.kt.cell 0).trans mc_0
       have f0 := J5.kt.frozen 0
       have i5 : (w5.setCell ⟨w4.heap.size, 0, none⟩ (.int .i64 (pc + 1))).cell? ⟨w.heap.size + 1 + 1 + 1, 0, none⟩ = some (.int .u16 52) := J6.out.j.ki.cell 0
       have a5 := (J6.out.j.km.cell 1).trans mc_1
       clear hn5 hF5 b5 J5 c0 i3 J4))
  refine (AL _).mono ?_
  rintro e w6 ⟨rfl, hw6⟩
  subst w6
  have JJ := J6.out
  clear J6 i5 a5 t0 f0 c5 AL
  generalize w5.setCell ⟨w4.heap.size, 0, none⟩ (.int .i64 (pc + 1)) = V at JJ ⊢
  have t1 := (JJ.kt.cell 1).trans mc_1
  have f1 := JJ.kt.frozen 1
  have J7 := Lib.hid (JJ.set_ 1 (.int .u32 v) (mc_s1 v))
  clear JJ
  go_wp2_with (first
    | (refine wpList_load_row rfl 35 (.tmp 15) rfl w4.heap.size rfl 35 (mcC (pc + 1) v x mem) (0, 0) _ J7.out.kt.blk Tryd.underlying35 rfl (mc_inf hl) ?_)
    | (refine wpList_store_blk rfl 35 (.tmp 6) (.tmp 161) rfl (w.heap.size + 1 + 1) _ (mcC (pc + 1) v x mem) 35 rfl rfl J7.out.j.kz (vm_z19 hl) (mc_inf hl) mc_one ?_; intro w9 hw9 hn9))
  refine bodyPost_ret (v := .tuple #[.agg (mcC (pc + 1) v x mem), .int .u32 0, .bool false]) (results_row_two rfl _ _ (w.heap.size + 1 + 1) 35 (mcC (pc + 1) v x mem) (0, 0) _ rfl hw9.blk Tryd.underlying35 rfl (mc_inf hl) _ _ rfl rfl) rfl ?_
  exact ⟨rfl, (J7.out.j.out hn9 hw9).old⟩

set_option maxRecDepth 100000 in
set_option maxHeartbeats 4000000 in
theorem rstep_60 (y z k : Int) (A : Option Addr) (m cap : Nat) (f : Nat → Ins) (d : Dat) (hd : DatOk d) (s : VmS) (hok : VmOk s) (w : World) (hA : Ri w w.heap.size A m f) (hcap : m ≤ cap) (hm : m ≤ 64) (hs : s.pc < m) (hf : f s.pc = (60, y, z, k)) (hv2 : aluB 60 s.a s.x = true) :
    Calls Tryd.prog 16 #[.slice A m cap, datV d, vmV s] w fun e w' => e = .returned (.tuple #[.agg (vmC ⟨s.pc + 1, aluV 60 s.a s.x, s.x, s.mem⟩), .int .u32 0, .bool false]) ∧ Below w.heap.size w w' := by
  have hspc : (s.pc : Int) < m := by omega
  have ho := hA.ok s.pc hs
  rw [hf] at ho
  obtain ⟨b, off, rfl, hbl, pI, _⟩ := hA s.pc hs
  rw [hf] at pI
  simp only at pI
  have kd := ((Blk.new w (datC d) 32).alloc (.cells (vmC s) 35)).alloc (.cells zerL 35)
  have km := (Blk.new_ (w.alloc (.cells (datC d) 32)) (vmC s) 35 (n := w.heap.size + 1) (by simp)).alloc (.cells zerL 35)
  have kz := Blk.new_ ((w.alloc (.cells (datC d) 32)).alloc (.cells (vmC s) 35)) zerL 35 (n := w.heap.size + 1 + 1) (by simp)
  have B0 := (((Below.refl w.heap.size w).alloc (Nat.le_refl _) (.cells (datC d) 32)).alloc (by simp) (.cells (vmC s) 35)).alloc (by simp; omega) (.cells zerL 35)
  have c0 := (km.cell 0).trans mc_0
  obtain ⟨q0, q1, q2, q3⟩ := ri_at B0 hbl pI
  have N := fun V => refname_any 60 V (by decide)
  rw [show nameOf 60 = (⟨#[100, 105, 118, 46, 120]⟩, true) by kernel_rfl] at N
  have SP := fun V => split_any [100, 105, 118, 46, 120] (by decide) V
  rw [show headOf [100, 105, 118, 46, 120] = [100, 105, 118] by decide, show tailOf [100, 105, 118, 46, 120] = [120] by decide] at SP
  have AL := fun V => refalu_any 60 s.a s.x (by decide) (by decide) hok.a hok.x V
  obtain ⟨v, hv⟩ : ∃ v, aluV 60 s.a s.x = v := ⟨_, rfl⟩
  rw [hv, hv2] at AL
  rw [hv]
  clear hv hv2
  obtain ⟨pc, a, x, mem⟩ := s
  have hl : mem.length = 16 := hok.len
  simp only [vmC] at kd km kz B0 c0 q0 q1 q2 q3 ⊢
  simp only at AL hspc hs hf ho
  unfold zerL at kd km kz B0 c0 q0 q1 q2 q3
  have hka : (0 : Int) ≤ pc := by omega
  unfold datV vmV
  simp only [vmC]
  go_enter Tryd.func16, Tryd.ntmps16
  go_wp2_with (refine wpList_store_blk rfl 54 (.tmp 9) (.tmp 23) rfl (w.heap.size + 1 + 1 + 1) _ (celI (60, y, z, k)).toArray 54 rfl rfl (Blk.new_ _ _ _ (by simp)) rfl (cel_inf _) (cel_ok _) ?_
               intro w2 hF2 hn2
               have J2 : RI w w2 (60, y, z, k) d pc a x mem zerL := ⟨But.blk' hn2 (kd.alloc _) (by omega), But.blk' hn2 (km.alloc _) (by omega), But.blk' hn2 (kz.alloc _) (by omega), hF2, (B0.alloc B0.size _).trans (hn2.below _ (by omega) (by simp; omega))⟩
               have i0 : w2.cell? ⟨w.heap.size + 1 + 1 + 1, 0, none⟩ = some (.int .u16 60) := hF2.cell 0
               clear hF2 hn2 kd km kz B0 c0 q0 q1 q2 q3)
  refine (N _).mono ?_
  rintro e w3 ⟨rfl, b3⟩
  have J3 := J2.below b3
  clear b3 J2 i0 N
  go_wp2_with fail
  refine (SP _).mono ?_
  rintro e w4 ⟨rfl, b4⟩
  have J4 := J3.below b4
  have i3 : w4.cell? ⟨w.heap.size + 1 + 1 + 1, 3, none⟩ = some (.int .u32 k) := J4.ki.cell 3
  have c0 := (J4.km.cell 0).trans mc_0
  have x0 : w4.cell? ⟨w.heap.size + 1, 2, none⟩ = some (.int .u32 x) := (J4.km.cell 2).trans mc_2
  clear b4 J3 SP
  go_wp2_with (first
    | (refine wpList_load_row rfl 35 (.tmp 5) rfl (w.heap.size + 1) rfl 35 (mcC pc a x mem) (0, 0) _ J4.km.blk Tryd.underlying35 rfl (mc_inf hl) ?_)
    | (refine wpList_store_blk rfl 35 (.tmp 15) (.tmp 41) rfl w4.heap.size _ (mcC pc a x mem) 35 rfl rfl (Blk.new_ _ _ _ rfl) (vm_z19 hl) (mc_inf hl) mc_one ?_
       intro w5 hF5 hn5
       have b5 : Below w4.heap.size w4 w5 := ((Below.refl _ w4).alloc (Nat.le_refl _) _).trans (hn5.below _ (Nat.le_refl _) (by simp))
       have J5 : RJ w w5 w4.heap.size (60, y, z, k) d pc a x mem zerL (mcC pc a x mem) := ⟨J4.below b5, hF5, J4.ki.lt⟩
       have J6 := Lib.hid (J5.set_ 0 (.int .i64 (pc + 1)) (mc_s0 (pc + 1)))
       have c5 := (J5.j.km.cell 0).trans mc_0
       have t0 := (J5.kt.cell 0).trans mc_0
       have f0 := J5.kt.frozen 0
       have i5 : (w5.setCell ⟨w4.heap.size, 0, none⟩ (.int .i64 (pc + 1))).cell? ⟨w.heap.size + 1 + 1 + 1, 0, none⟩ = some (.int .u16 60) := J6.out.j.ki.cell 0
       have a5 := (J6.out.j.km.cell 1).trans mc_1
       clear hn5 hF5 b5 J5 c0 x0 i3 J4))
  refine (AL _).mono ?_
  rintro e w6 ⟨rfl, hw6⟩
  subst w6
  have JJ := J6.out
  clear J6 i5 a5 t0 f0 c5 AL
  generalize w5.setCell ⟨w4.heap.size, 0, none⟩ (.int .i64 (pc + 1)) = V at JJ ⊢
  have t1 := (JJ.kt.cell 1).trans mc_1
  have f1 := JJ.kt.frozen 1
  have J7 := Lib.hid (JJ.set_ 1 (.int .u32 v) (mc_s1 v))
  clear JJ
  go_wp2_with (first
    | (refine wpList_load_row rfl 35 (.tmp 15) rfl w4.heap.size rfl 35 (mcC (pc + 1) v x mem) (0, 0) _ J7.out.kt.blk Tryd.underlying35 rfl (mc_inf hl) ?_)
    | (refine wpList_store_blk rfl 35 (.tmp 6) (.tmp 161) rfl (w.heap.size + 1 + 1) _ (mcC (pc + 1) v x mem) 35 rfl rfl J7.out.j.kz (vm_z19 hl) (mc_inf hl) mc_one ?_; intro w9 hw9 hn9))
  refine bodyPost_ret (v := .tuple #[.agg (mcC (pc + 1) v x mem), .int .u32 0, .bool false]) (results_row_two rfl _ _ (w.heap.size + 1 + 1) 35 (mcC (pc + 1) v x mem) (0, 0) _ rfl hw9.blk Tryd.underlying35 rfl (mc_inf hl) _ _ rfl rfl) rfl ?_
  exact ⟨rfl, (J7.out.j.out hn9 hw9).old⟩

set_option maxRecDepth 100000 in
set_option maxHeartbeats 4000000 in
theorem rstep_68 (y z k : Int) (A : Option Addr) (m cap : Nat) (f : Nat → Ins) (d : Dat) (hd : DatOk d) (s : VmS) (hok : VmOk s) (w : World) (hA : Ri w w.heap.size A m f) (hcap : m ≤ cap) (hm : m ≤ 64) (hs : s.pc < m) (hf : f s.pc = (68, y, z, k)) (hv2 : aluB 68 s.a k = true) :
    Calls Tryd.prog 16 #[.slice A m cap, datV d, vmV s] w fun e w' => e = .returned (.tuple #[.agg (vmC ⟨s.pc + 1, aluV 68 s.a k, s.x, s.mem⟩), .int .u32 0, .bool false]) ∧ Below w.heap.size w w' := by
  have hspc : (s.pc : Int) < m := by omega
  have ho := hA.ok s.pc hs
  rw [hf] at ho
  obtain ⟨b, off, rfl, hbl, pI, _⟩ := hA s.pc hs
  rw [hf] at pI
  simp only at pI
  have kd := ((Blk.new w (datC d) 32).alloc (.cells (vmC s) 35)).alloc (.cells zerL 35)
  have km := (Blk.new_ (w.alloc (.cells (datC d) 32)) (vmC s) 35 (n := w.heap.size + 1) (by simp)).alloc (.cells zerL 35)
  have kz := Blk.new_ ((w.alloc (.cells (datC d) 32)).alloc (.cells (vmC s) 35)) zerL 35 (n := w.heap.size + 1 + 1) (by simp)
  have B0 := (((Below.refl w.heap.size w).alloc (Nat.le_refl _) (.cells (datC d) 32)).alloc (by simp) (.cells (vmC s) 35)).alloc (by simp; omega) (.cells zerL 35)
  have c0 := (km.cell 0).trans mc_0
  obtain ⟨q0, q1, q2, q3⟩ := ri_at B0 hbl pI
  have N := fun V => refname_any 68 V (by decide)
  rw [show nameOf 68 = (⟨#[111, 114, 46, 107]⟩, true) by kernel_rfl] at N
  have SP := fun V => split_any [111, 114, 46, 107] (by decide) V
  rw [show headOf [111, 114, 46, 107] = [111, 114] by decide, show tailOf [111, 114, 46, 107] = [107] by decide] at SP
  have AL := fun V => refalu_any 68 s.a k (by decide) (by decide) hok.a ⟨ho.k0, ho.k1⟩ V
  obtain ⟨v, hv⟩ : ∃ v, aluV 68 s.a k = v := ⟨_, rfl⟩
  rw [hv, hv2] at AL
  rw [hv]
  clear hv hv2
  obtain ⟨pc, a, x, mem⟩ := s
  have hl : mem.length = 16 := hok.len
  simp only [vmC] at kd km kz B0 c0 q0 q1 q2 q3 ⊢
  simp only at AL hspc hs hf ho
  unfold zerL at kd km kz B0 c0 q0 q1 q2 q3
  have hka : (0 : Int) ≤ pc := by omega
  unfold datV vmV
  simp only [vmC]
  go_enter Tryd.func16, Tryd.ntmps16
  go_wp2_with (refine wpList_store_blk rfl 54 (.tmp 9) (.tmp 23) rfl (w.heap.size + 1 + 1 + 1) _ (celI (68, y, z, k)).toArray 54 rfl rfl (Blk.new_ _ _ _ (by simp)) rfl (cel_inf _) (cel_ok _) ?_
               intro w2 hF2 hn2
               have J2 : RI w w2 (68, y, z, k) d pc a x mem zerL := ⟨But.blk' hn2 (kd.alloc _) (by omega), But.blk' hn2 (km.alloc _) (by omega), But.blk' hn2 (kz.alloc _) (by omega), hF2, (B0.alloc B0.size _).trans (hn2.below _ (by omega) (by simp; omega))⟩
               have i0 : w2.cell? ⟨w.heap.size + 1 + 1 + 1, 0, none⟩ = some (.int .u16 68) := hF2.cell 0
               clear hF2 hn2 kd km kz B0 c0 q0 q1 q2 q3)
  refine (N _).mono ?_
  rintro e w3 ⟨rfl, b3⟩
  have J3 := J2.below b3
  clear b3 J2 i0 N
  go_wp2_with fail
  refine (SP _).mono ?_
  rintro e w4 ⟨rfl, b4⟩
  have J4 := J3.below b4
  have i3 : w4.cell? ⟨w.heap.size + 1 + 1 + 1, 3, none⟩ = some (.int .u32 k) := J4.ki.cell 3
  have c0 := (J4.km.cell 0).trans mc_0
  clear b4 J3 SP
  go_wp2_with (first
    | (refine wpList_load_row rfl 35 (.tmp 5) rfl (w.heap.size + 1) rfl 35 (mcC pc a x mem) (0, 0) _ J4.km.blk Tryd.underlying35 rfl (mc_inf hl) ?_)
    | (refine wpList_store_blk rfl 35 (.tmp 15) (.tmp 41) rfl w4.heap.size _ (mcC pc a x mem) 35 rfl rfl (Blk.new_ _ _ _ rfl) (vm_z19 hl) (mc_inf hl) mc_one ?_
       intro w5 hF5 hn5
       have b5 : Below w4.heap.size w4 w5 := ((Below.refl _ w4).alloc (Nat.le_refl _) _).trans (hn5.below _ (Nat.le_refl _) (by simp))
       have J5 : RJ w w5 w4.heap.size (68, y, z, k) d pc a x mem zerL (mcC pc a x mem) := ⟨J4.below b5, hF5, J4.ki.lt⟩
       have J6 := Lib.hid (J5.set_ 0 (.int .i64 (pc + 1)) (mc_s0 (pc + 1)))
       have c5 := (J5.j.km.cell 0).trans mc_0
       have t0 := (J5.kt.cell 0).trans mc_0
       have f0 := J5.kt.frozen 0
       have i5 : (w5.setCell ⟨w4.heap.size, 0, none⟩ (.int .i64 (pc + 1))).cell? ⟨w.heap.size + 1 + 1 + 1, 0, none⟩ = some (.int .u16 68) := J6.out.j.ki.cell 0
       have a5 := (J6.out.j.km.cell 1).trans mc_1
       clear hn5 hF5 b5 J5 c0 i3 J4))
  refine (AL _).mono ?_
  rintro e w6 ⟨rfl, hw6⟩
  subst w6
  have JJ := J6.out
  clear J6 i5 a5 t0 f0 c5 AL
  generalize w5.setCell ⟨w4.heap.size, 0, none⟩ (.int .i64 (pc + 1)) = V at JJ ⊢
  have t1 := (JJ.kt.cell 1).trans mc_1
  have f1 := JJ.kt.frozen 1
  have J7 := Lib.hid (JJ.set_ 1 (.int .u32 v) (mc_s1 v))
  clear JJ
  go_wp2_with (first
    | (refine wpList_load_row rfl 35 (.tmp 15) rfl w4.heap.size rfl 35 (mcC (pc + 1) v x mem) (0, 0) _ J7.out.kt.blk Tryd.underlying35 rfl (mc_inf hl) ?_)
    | (refine wpList_store_blk rfl 35 (.tmp 6) (.tmp 161) rfl (w.heap.size + 1 + 1) _ (mcC (pc + 1) v x mem) 35 rfl rfl J7.out.j.kz (vm_z19 hl) (mc_inf hl) mc_one ?_; intro w9 hw9 hn9))
  refine bodyPost_ret (v := .tuple #[.agg (mcC (pc + 1) v x mem), .int .u32 0, .bool false]) (results_row_two rfl _ _ (w.heap.size + 1 + 1) 35 (mcC (pc + 1) v x mem) (0, 0) _ rfl hw9.blk Tryd.underlying35 rfl (mc_inf hl) _ _ rfl rfl) rfl ?_
  exact ⟨rfl, (J7.out.j.out hn9 hw9).old⟩

set_option maxRecDepth 100000 in
set_option maxHeartbeats 4000000 in
theorem rstep_76 (y z k : Int) (A : Option Addr) (m cap : Nat) (f : Nat → Ins) (d : Dat) (hd : DatOk d) (s : VmS) (hok : VmOk s) (w : World) (hA : Ri w w.heap.size A m f) (hcap : m ≤ cap) (hm : m ≤ 64) (hs : s.pc < m) (hf : f s.pc = (76, y, z, k)) (hv2 : aluB 76 s.a s.x = true) :
    Calls Tryd.prog 16 #[.slice A m cap, datV d, vmV s] w fun e w' => e = .returned (.tuple #[.agg (vmC ⟨s.pc + 1, aluV 76 s.a s.x, s.x, s.mem⟩), .int .u32 0, .bool false]) ∧ Below w.heap.size w w' := by
  have hspc : (s.pc : Int) < m := by omega
  have ho := hA.ok s.pc hs
  rw [hf] at ho
  obtain ⟨b, off, rfl, hbl, pI, _⟩ := hA s.pc hs
  rw [hf] at pI
  simp only at pI
  have kd := ((Blk.new w (datC d) 32).alloc (.cells (vmC s) 35)).alloc (.cells zerL 35)
  have km := (Blk.new_ (w.alloc (.cells (datC d) 32)) (vmC s) 35 (n := w.heap.size + 1) (by simp)).alloc (.cells zerL 35)
  have kz := Blk.new_ ((w.alloc (.cells (datC d) 32)).alloc (.cells (vmC s) 35)) zerL 35 (n := w.heap.size + 1 + 1) (by simp)
  have B0 := (((Below.refl w.heap.size w).alloc (Nat.le_refl _) (.cells (datC d) 32)).alloc (by simp) (.cells (vmC s) 35)).alloc (by simp; omega) (.cells zerL 35)
  have c0 := (km.cell 0).trans mc_0
  obtain ⟨q0, q1, q2, q3⟩ := ri_at B0 hbl pI
  have N := fun V => refname_any 76 V (by decide)
  rw [show nameOf 76 = (⟨#[111, 114, 46, 120]⟩, true) by kernel_rfl] at N
  have SP := fun V => split_any [111, 114, 46, 120] (by decide) V
  rw [show headOf [111, 114, 46, 120] = [111, 114] by decide, show tailOf [111, 114, 46, 120] = [120] by decide] at SP
  have AL := fun V => refalu_any 76 s.a s.x (by decide) (by decide) hok.a hok.x V
  obtain ⟨v, hv⟩ : ∃ v, aluV 76 s.a s.x = v := ⟨_, rfl⟩
  rw [hv, hv2] at AL
  rw [hv]
  clear hv hv2
  obtain ⟨pc, a, x, mem⟩ := s
  have hl : mem.length = 16 := hok.len
  simp only [vmC] at kd km kz B0 c0 q0 q1 q2 q3 ⊢
  simp only at AL hspc hs hf ho
  unfold zerL at kd km kz B0 c0 q0 q1 q2 q3
  have hka : (0 : Int) ≤ pc := by omega
  unfold datV vmV
  simp only [vmC]
  go_enter Tryd.func16, Tryd.ntmps16
  go_wp2_with (refine wpList_store_blk rfl 54 (.tmp 9) (.tmp 23) rfl (w.heap.size + 1 + 1 + 1) _ (celI (76, y, z, k)).toArray 54 rfl rfl (Blk.new_ _ _ _ (by simp)) rfl (cel_inf _) (cel_ok _) ?_
               intro w2 hF2 hn2
               have J2 : RI w w2 (76, y, z, k) d pc a x mem zerL := ⟨But.blk' hn2 (kd.alloc _) (by omega), But.blk' hn2 (km.alloc _) (by omega), But.blk' hn2 (kz.alloc _) (by omega), hF2, (B0.alloc B0.size _).trans (hn2.below _ (by omega) (by simp; omega))⟩
               have i0 : w2.cell? ⟨w.heap.size + 1 + 1 + 1, 0, none⟩ = some (.int .u16 76) := hF2.cell 0
               clear hF2 hn2 kd km kz B0 c0 q0 q1 q2 q3)
  refine (N _).mono ?_
  rintro e w3 ⟨rfl, b3⟩
  have J3 := J2.below b3
  clear b3 J2 i0 N
  go_wp2_with fail
  refine (SP _).mono ?_
  rintro e w4 ⟨rfl, b4⟩
  have J4 := J3.below b4
  have i3 : w4.cell? ⟨w.heap.size + 1 + 1 + 1, 3, none⟩ = some (.int .u32 k) := J4.ki.cell 3
  have c0 := (J4.km.cell 0).trans mc_0
  have x0 : w4.cell? ⟨w.heap.size + 1, 2, none⟩ = some (.int .u32 x) := (J4.km.cell 2).trans mc_2
  clear b4 J3 SP
  go_wp2_with (first
    | (refine wpList_load_row rfl 35 (.tmp 5) rfl (w.heap.size + 1) rfl 35 (mcC pc a x mem) (0, 0) _ J4.km.blk Tryd.underlying35 rfl (mc_inf hl) ?_)
    | (refine wpList_store_blk rfl 35 (.tmp 15) (.tmp 41) rfl w4.heap.size _ (mcC pc a x mem) 35 rfl rfl (Blk.new_ _ _ _ rfl) (vm_z19 hl) (mc_inf hl) mc_one ?_
       intro w5 hF5 hn5
       have b5 : Below w4.heap.size w4 w5 := ((Below.refl _ w4).alloc (Nat.le_refl _) _).trans (hn5.below _ (Nat.le_refl _) (by simp))
       have J5 : RJ w w5 w4.heap.size (76, y, z, k) d pc a x mem zerL (mcC pc a x mem) := ⟨J4.below b5, hF5, J4.ki.lt⟩
       have J6 := Lib.hid (J5.set_ 0 (.int .i64 (pc + 1)) (mc_s0 (pc + 1)))
       have c5 := (J5.j.km.cell 0).trans mc_0
       have t0 := (J5.kt.cell 0).trans mc_0
       have f0 := J5.kt.frozen 0
       have i5 : (w5.setCell ⟨w4.heap.size, 0, none⟩ (.int .i64 (pc + 1))).cell? ⟨w.heap.size + 1 + 1 + 1, 0, none⟩ = some (.int .u16 76) := J6.out.j.ki.cell 0
       have a5 := (J6.out.j.km.cell 1).trans mc_1
       clear hn5 hF5 b5 J5 c0 x0 i3 J4))
  refine (AL _).mono ?_
  rintro e w6 ⟨rfl, hw6⟩
  subst w6
  have JJ := J6.out
  clear J6 i5 a5 t0 f0 c5 AL
  generalize w5.setCell ⟨w4.heap.size, 0, none⟩ (.int .i64 (pc + 1)) = V at JJ ⊢
  have t1 := (JJ.kt.cell 1).trans mc_1
  have f1 := JJ.kt.frozen 1
  have J7 := Lib.hid (JJ.set_ 1 (.int .u32 v) (mc_s1 v))
  clear JJ
  go_wp2_with (first
    | (refine wpList_load_row rfl 35 (.tmp 15) rfl w4.heap.size rfl 35 (mcC (pc + 1) v x mem) (0, 0) _ J7.out.kt.blk Tryd.underlying35 rfl (mc_inf hl) ?_)
    | (refine wpList_store_blk rfl 35 (.tmp 6) (.tmp 161) rfl (w.heap.size + 1 + 1) _ (mcC (pc + 1) v x mem) 35 rfl rfl J7.out.j.kz (vm_z19 hl) (mc_inf hl) mc_one ?_; intro w9 hw9 hn9))
  refine bodyPost_ret (v := .tuple #[.agg (mcC (pc + 1) v x mem), .int .u32 0, .bool false]) (results_row_two rfl _ _ (w.heap.size + 1 + 1) 35 (mcC (pc + 1) v x mem) (0, 0) _ rfl hw9.blk Tryd.underlying35 rfl (mc_inf hl) _ _ rfl rfl) rfl ?_
  exact ⟨rfl, (J7.out.j.out hn9 hw9).old⟩

set_option maxRecDepth 100000 in
set_option maxHeartbeats 4000000 in
theorem rstep_84 (y z k : Int) (A : Option Addr) (m cap : Nat) (f : Nat → Ins) (d : Dat) (hd : DatOk d) (s : VmS) (hok : VmOk s) (w : World) (hA : Ri w w.heap.size A m f) (hcap : m ≤ cap) (hm : m ≤ 64) (hs : s.pc < m) (hf : f s.pc = (84, y, z, k)) (hv2 : aluB 84 s.a k = true) :
    Calls Tryd.prog 16 #[.slice A m cap, datV d, vmV s] w fun e w' => e = .returned (.tuple #[.agg (vmC ⟨s.pc + 1, aluV 84 s.a k, s.x, s.mem⟩), .int .u32 0, .bool false]) ∧ Below w.heap.size w w' := by
  have hspc : (s.pc : Int) < m := by omega
  have ho := hA.ok s.pc hs
  rw [hf] at ho
  obtain ⟨b, off, rfl, hbl, pI, _⟩ := hA s.pc hs
  rw [hf] at pI
  simp only at pI
  have kd := ((Blk.new w (datC d) 32).alloc (.cells (vmC s) 35)).alloc (.cells zerL 35)
  have km := (Blk.new_ (w.alloc (.cells (datC d) 32)) (vmC s) 35 (n := w.heap.size + 1) (by simp)).alloc (.cells zerL 35)
  have kz := Blk.new_ ((w.alloc (.cells (datC d) 32)).alloc (.cells (vmC s) 35)) zerL 35 (n := w.heap.size + 1 + 1) (by simp)
  have B0 := (((Below.refl w.heap.size w).alloc (Nat.le_refl _) (.cells (datC d) 32)).alloc (by simp) (.cells (vmC s) 35)).alloc (by simp; omega) (.cells zerL 35)
  have c0 := (km.cell 0).trans mc_0
  obtain ⟨q0, q1, q2, q3⟩ := ri_at B0 hbl pI
  have N := fun V => refname_any 84 V (by decide)
  rw [show nameOf 84 = (⟨#[97, 110, 100, 46, 107]⟩, true) by kernel_rfl] at N
  have SP := fun V => split_any [97, 110, 100, 46, 107] (by decide) V
  rw [show headOf [97, 110, 100, 46, 107] = [97, 110, 100] by decide, show tailOf [97, 110, 100, 46, 107] = [107] by decide] at SP
  have AL := fun V => refalu_any 84 s.a k (by decide) (by decide) hok.a ⟨ho.k0, ho.k1⟩ V
  obtain ⟨v, hv⟩ : ∃ v, aluV 84 s.a k = v := ⟨_, rfl⟩
  rw [hv, hv2] at AL
  rw [hv]
  clear hv hv2
  obtain ⟨pc, a, x, mem⟩ := s
  have hl : mem.length = 16 := hok.len
  simp only [vmC] at kd km kz B0 c0 q0 q1 q2 q3 ⊢
  simp only at AL hspc hs hf ho
  unfold zerL at kd km kz B0 c0 q0 q1 q2 q3
  have hka : (0 : Int) ≤ pc := by omega
  unfold datV vmV
  simp only [vmC]
  go_enter Tryd.func16, Tryd.ntmps16
  go_wp2_with (refine wpList_store_blk rfl 54 (.tmp 9) (.tmp 23) rfl (w.heap.size + 1 + 1 + 1) _ (celI (84, y, z, k)).toArray 54 rfl rfl (Blk.new_ _ _ _ (by simp)) rfl (cel_inf _) (cel_ok _) ?_
               intro w2 hF2 hn2
               have J2 : RI w w2 (84, y, z, k) d pc a x mem zerL := ⟨But.blk' hn2 (kd.alloc _) (by omega), But.blk' hn2 (km.alloc _) (by omega), But.blk' hn2 (kz.alloc _) (by omega), hF2, (B0.alloc B0.size _).trans (hn2.below _ (by omega) (by simp; omega))⟩
               have i0 : w2.cell? ⟨w.heap.size + 1 + 1 + 1, 0, none⟩ = some (.int .u16 84) := hF2.cell 0
               clear hF2 hn2 kd km kz B0 c0 q0 q1 q2 q3)
  refine (N _).mono ?_
  rintro e w3 ⟨rfl, b3⟩
  have J3 := J2.below b3
  clear b3 J2 i0 N
  go_wp2_with fail
  refine (SP _).mono ?_
  rintro e w4 ⟨rfl, b4⟩
  have J4 := J3.below b4
  have i3 : w4.cell? ⟨w.heap.size + 1 + 1 + 1, 3, none⟩ = some (.int .u32 k) := J4.ki.cell 3
  have c0 := (J4.km.cell 0).trans mc_0
  clear b4 J3 SP
  go_wp2_with (first
    | (refine wpList_load_row rfl 35 (.tmp 5) rfl (w.heap.size + 1) rfl 35 (mcC pc a x mem) (0, 0) _ J4.km.blk Tryd.underlying35 rfl (mc_inf hl) ?_)
    | (refine wpList_store_blk rfl 35 (.tmp 15) (.tmp 41) rfl w4.heap.size _ (mcC pc a x mem) 35 rfl rfl (Blk.new_ _ _ _ rfl) (vm_z19 hl) (mc_inf hl) mc_one ?_
       intro w5 hF5 hn5
       have b5 : Below w4.heap.size w4 w5 := ((Below.refl _ w4).alloc (Nat.le_refl _) _).trans (hn5.below _ (Nat.le_refl _) (by simp))
       have J5 : RJ w w5 w4.heap.size (84, y, z, k) d pc a x mem zerL (mcC pc a x mem) := ⟨J4.below b5, hF5, J4.ki.lt⟩
       have J6 := Lib.hid (J5.set_ 0 (.int .i64 (pc + 1)) (mc_s0 (pc + 1)))
       have c5 := (J5.j.km.cell 0).trans mc_0
       have t0 := (J5.kt.cell 0).trans mc_0
       have f0 := J5.kt.frozen 0
       have i5 : (w5.setCell ⟨w4.heap.size, 0, none⟩ (.int .i64 (pc + 1))).cell? ⟨w.heap.size + 1 + 1 + 1, 0, none⟩ = some (.int .u16 84) := J6.out.j.ki.cell 0
       have a5 := (J6.out.j.km.cell 1).trans mc_1
       clear hn5 hF5 b5 J5 c0 i3 J4))
  refine (AL _).mono ?_
  rintro e w6 ⟨rfl, hw6⟩
  subst w6
  have JJ := J6.out
  clear J6 i5 a5 t0 f0 c5 AL
  generalize w5.setCell ⟨w4.heap.size, 0, none⟩ (.int .i64 (pc + 1)) = V at JJ ⊢
  have t1 := (JJ.kt.cell 1).trans mc_1
  have f1 := JJ.kt.frozen 1
  have J7 := Lib.hid (JJ.set_ 1 (.int .u32 v) (mc_s1 v))
  clear JJ
  go_wp2_with (first
    | (refine wpList_load_row rfl 35 (.tmp 15) rfl w4.heap.size rfl 35 (mcC (pc + 1) v x mem) (0, 0) _ J7.out.kt.blk Tryd.underlying35 rfl (mc_inf hl) ?_)
    | (refine wpList_store_blk rfl 35 (.tmp 6) (.tmp 161) rfl (w.heap.size + 1 + 1) _ (mcC (pc + 1) v x mem) 35 rfl rfl J7.out.j.kz (vm_z19 hl) (mc_inf hl) mc_one ?_; intro w9 hw9 hn9))
  refine bodyPost_ret (v := .tuple #[.agg (mcC (pc + 1) v x mem), .int .u32 0, .bool false]) (results_row_two rfl _ _ (w.heap.size + 1 + 1) 35 (mcC (pc + 1) v x mem) (0, 0) _ rfl hw9.blk Tryd.underlying35 rfl (mc_inf hl) _ _ rfl rfl) rfl ?_
  exact ⟨rfl, (J7.out.j.out hn9 hw9).old⟩

set_option maxRecDepth 100000 in
set_option maxHeartbeats 4000000 in
theorem rstep_92 (y z k : Int) (A : Option Addr) (m cap : Nat) (f : Nat → Ins) (d : Dat) (hd : DatOk d) (s : VmS) (hok : VmOk s) (w : World) (hA : Ri w w.heap.size A m f) (hcap : m ≤ cap) (hm : m ≤ 64) (hs : s.pc < m) (hf : f s.pc = (92, y, z, k)) (hv2 : aluB 92 s.a s.x = true) :
    Calls Tryd.prog 16 #[.slice A m cap, datV d, vmV s] w fun e w' => e = .returned (.tuple #[.agg (vmC ⟨s.pc + 1, aluV 92 s.a s.x, s.x, s.mem⟩), .int .u32 0, .bool false]) ∧ Below w.heap.size w w' := by
  have hspc : (s.pc : Int) < m := by omega
  have ho := hA.ok s.pc hs
  rw [hf] at ho
  obtain ⟨b, off, rfl, hbl, pI, _⟩ := hA s.pc hs
  rw [hf] at pI
  simp only at pI
  have kd := ((Blk.new w (datC d) 32).alloc (.cells (vmC s) 35)).alloc (.cells zerL 35)
  have km := (Blk.new_ (w.alloc (.cells (datC d) 32)) (vmC s) 35 (n := w.heap.size + 1) (by simp)).alloc (.cells zerL 35)
  have kz := Blk.new_ ((w.alloc (.cells (datC d) 32)).alloc (.cells (vmC s) 35)) zerL 35 (n := w.heap.size + 1 + 1) (by simp)
  have B0 := (((Below.refl w.heap.size w).alloc (Nat.le_refl _) (.cells (datC d) 32)).alloc (by simp) (.cells (vmC s) 35)).alloc (by simp; omega) (.cells zerL 35)
  have c0 := (km.cell 0).trans mc_0
  obtain ⟨q0, q1, q2, q3⟩ := ri_at B0 hbl pI
  have N := fun V => refname_any 92 V (by decide)
  rw [show nameOf 92 = (⟨#[97, 110, 100, 46, 120]⟩, true) by kernel_rfl] at N
  have SP := fun V => split_any [97, 110, 100, 46, 120] (by decide) V
  rw [show headOf [97, 110, 100, 46, 120] = [97, 110, 100] by decide, show tailOf [97, 110, 100, 46, 120] = [120] by decide] at SP
  have AL := fun V => refalu_any 92 s.a s.x (by decide) (by decide) hok.a hok.x V
  obtain ⟨v, hv⟩ : ∃ v, aluV 92 s.a s.x = v := ⟨_, rfl⟩
  rw [hv, hv2] at AL
  rw [hv]
  clear hv hv2
  obtain ⟨pc, a, x, mem⟩ := s
  have hl : mem.length = 16 := hok.len
  simp only [vmC] at kd km kz B0 c0 q0 q1 q2 q3 ⊢
  simp only at AL hspc hs hf ho
  unfold zerL at kd km kz B0 c0 q0 q1 q2 q3
  have hka : (0 : Int) ≤ pc := by omega
  unfold datV vmV
  simp only [vmC]
  go_enter Tryd.func16, Tryd.ntmps16
  go_wp2_with (refine wpList_store_blk rfl 54 (.tmp 9) (.tmp 23) rfl (w.heap.size + 1 + 1 + 1) _ (celI (92, y, z, k)).toArray 54 rfl rfl (Blk.new_ _ _ _ (by simp)) rfl (cel_inf _) (cel_ok _) ?_
               intro w2 hF2 hn2
               have J2 : RI w w2 (92, y, z, k) d pc a x mem zerL := ⟨But.blk' hn2 (kd.alloc _) (by omega), But.blk' hn2 (km.alloc _) (by omega), But.blk' hn2 (kz.alloc _) (by omega), hF2, (B0.alloc B0.size _).trans (hn2.below _ (by omega) (by simp; omega))⟩
               have i0 : w2.cell? ⟨w.heap.size + 1 + 1 + 1, 0, none⟩ = some (.int .u16 92) := hF2.cell 0
               clear hF2 hn2 kd km kz B0 c0 q0 q1 q2 q3)
  refine (N _).mono ?_
  rintro e w3 ⟨rfl, b3⟩
  have J3 := J2.below b3
  clear b3 J2 i0 N
  go_wp2_with fail
  refine (SP _).mono ?_
  rintro e w4 ⟨rfl, b4⟩
  have J4 := J3.below b4
  have i3 : w4.cell? ⟨w.heap.size + 1 + 1 + 1, 3, none⟩ = some (.int .u32 k) := J4.ki.cell 3
  have c0 := (J4.km.cell 0).trans mc_0
  have x0 : w4.cell? ⟨w.heap.size + 1, 2, none⟩ = some (.int .u32 x) := (J4.km.cell 2).trans mc_2
  clear b4 J3 SP
  go_wp2_with (first
    | (refine wpList_load_row rfl 35 (.tmp 5) rfl (w.heap.size + 1) rfl 35 (mcC pc a x mem) (0, 0) _ J4.km.blk Tryd.underlying35 rfl (mc_inf hl) ?_)
    | (refine wpList_store_blk rfl 35 (.tmp 15) (.tmp 41) rfl w4.heap.size _ (mcC pc a x mem) 35 rfl rfl (Blk.new_ _ _ _ rfl) (vm_z19 hl) (mc_inf hl) mc_one ?_
       intro w5 hF5 hn5
       have b5 : Below w4.heap.size w4 w5 := ((Below.refl _ w4).alloc (Nat.le_refl _) _).trans (hn5.below _ (Nat.le_refl _) (by simp))
       have J5 : RJ w w5 w4.heap.size (92, y, z, k) d pc a x mem zerL (mcC pc a x mem) := ⟨J4.below b5, hF5, J4.ki.lt⟩
       have J6 := Lib.hid (J5.set_ 0 (.int .i64 (pc + 1)) (mc_s0 (pc + 1)))
       have c5 := (J5.j.km.cell 0).trans mc_0
       have t0 := (J5.kt.cell 0).trans mc_0
       have f0 := J5.kt.frozen 0
       have i5 : (w5.setCell ⟨w4.heap.size, 0, none⟩ (.int .i64 (pc + 1))).cell? ⟨w.heap.size + 1 + 1 + 1, 0, none⟩ = some (.int .u16 92) := J6.out.j.ki.cell 0
       have a5 := (J6.out.j.km.cell 1).trans mc_1
       clear hn5 hF5 b5 J5 c0 x0 i3 J4))
  refine (AL _).mono ?_
  rintro e w6 ⟨rfl, hw6⟩
  subst w6
  have JJ := J6.out
  clear J6 i5 a5 t0 f0 c5 AL
  generalize w5.setCell ⟨w4.heap.size, 0, none⟩ (.int .i64 (pc + 1)) = V at JJ ⊢
  have t1 := (JJ.kt.cell 1).trans mc_1
  have f1 := JJ.kt.frozen 1
  have J7 := Lib.hid (JJ.set_ 1 (.int .u32 v) (mc_s1 v))
  clear JJ
  go_wp2_with (first
    | (refine wpList_load_row rfl 35 (.tmp 15) rfl w4.heap.size rfl 35 (mcC (pc + 1) v x mem) (0, 0) _ J7.out.kt.blk Tryd.underlying35 rfl (mc_inf hl) ?_)
    | (refine wpList_store_blk rfl 35 (.tmp 6) (.tmp 161) rfl (w.heap.size + 1 + 1) _ (mcC (pc + 1) v x mem) 35 rfl rfl J7.out.j.kz (vm_z19 hl) (mc_inf hl) mc_one ?_; intro w9 hw9 hn9))
  refine bodyPost_ret (v := .tuple #[.agg (mcC (pc + 1) v x mem), .int .u32 0, .bool false]) (results_row_two rfl _ _ (w.heap.size + 1 + 1) 35 (mcC (pc + 1) v x mem) (0, 0) _ rfl hw9.blk Tryd.underlying35 rfl (mc_inf hl) _ _ rfl rfl) rfl ?_
  exact ⟨rfl, (J7.out.j.out hn9 hw9).old⟩

set_option maxRecDepth 100000 in
set_option maxHeartbeats 4000000 in
theorem rstep_100 (y z k : Int) (A : Option Addr) (m cap : Nat) (f : Nat → Ins) (d : Dat) (hd : DatOk d) (s : VmS) (hok : VmOk s) (w : World) (hA : Ri w w.heap.size A m f) (hcap : m ≤ cap) (hm : m ≤ 64) (hs : s.pc < m) (hf : f s.pc = (100, y, z, k)) (hv2 : aluB 100 s.a k = true) :
    Calls Tryd.prog 16 #[.slice A m cap, datV d, vmV s] w fun e w' => e = .returned (.tuple #[.agg (vmC ⟨s.pc + 1, aluV 100 s.a k, s.x, s.mem⟩), .int .u32 0, .bool false]) ∧ Below w.heap.size w w' := by
  have hspc : (s.pc : Int) < m := by omega
  have ho := hA.ok s.pc hs
  rw [hf] at ho
  obtain ⟨b, off, rfl, hbl, pI, _⟩ := hA s.pc hs
  rw [hf] at pI
  simp only at pI
  have kd := ((Blk.new w (datC d) 32).alloc (.cells (vmC s) 35)).alloc (.cells zerL 35)
  have km := (Blk.new_ (w.alloc (.cells (datC d) 32)) (vmC s) 35 (n := w.heap.size + 1) (by simp)).alloc (.cells zerL 35)
  have kz := Blk.new_ ((w.alloc (.cells (datC d) 32)).alloc (.cells (vmC s) 35)) zerL 35 (n := w.heap.size + 1 + 1) (by simp)
  have B0 := (((Below.refl w.heap.size w).alloc (Nat.le_refl _) (.cells (datC d) 32)).alloc (by simp) (.cells (vmC s) 35)).alloc (by simp; omega) (.cells zerL 35)
  have c0 := (km.cell 0).trans mc_0
  obtain ⟨q0, q1, q2, q3⟩ := ri_at B0 hbl pI
  have N := fun V => refname_any 100 V (by decide)
  rw [show nameOf 100 = (⟨#[108, 115, 104, 46, 107]⟩, true) by kernel_rfl] at N
  have SP := fun V => split_any [108, 115, 104, 46, 107] (by decide) V
  rw [show headOf [108, 115, 104, 46, 107] = [108, 115, 104] by decide, show tailOf [108, 115, 104, 46, 107] = [107] by decide] at SP
  have AL := fun V => refalu_any 100 s.a k (by decide) (by decide) hok.a ⟨ho.k0, ho.k1⟩ V
  obtain ⟨v, hv⟩ : ∃ v, aluV 100 s.a k = v := ⟨_, rfl⟩
  rw [hv, hv2] at AL
  rw [hv]
  clear hv hv2
  obtain ⟨pc, a, x, mem⟩ := s
  have hl : mem.length = 16 := hok.len
  simp only [vmC] at kd km kz B0 c0 q0 q1 q2 q3 ⊢
  simp only at AL hspc hs hf ho
  unfold zerL at kd km kz B0 c0 q0 q1 q2 q3
  have hka : (0 : Int) ≤ pc := by omega
  unfold datV vmV
  simp only [vmC]
  go_enter Tryd.func16, Tryd.ntmps16
  go_wp2_with (refine wpList_store_blk rfl 54 (.tmp 9) (.tmp 23) rfl (w.heap.size + 1 + 1 + 1) _ (celI (100, y, z, k)).toArray 54 rfl rfl (Blk.new_ _ _ _ (by simp)) rfl (cel_inf _) (cel_ok _) ?_
               intro w2 hF2 hn2
               have J2 : RI w w2 (100, y, z, k) d pc a x mem zerL := ⟨But.blk' hn2 (kd.alloc _) (by omega), But.blk' hn2 (km.alloc _) (by omega), But.blk' hn2 (kz.alloc _) (by omega), hF2, (B0.alloc B0.size _).trans (hn2.below _ (by omega) (by simp; omega))⟩
               have i0 : w2.cell? ⟨w.heap.size + 1 + 1 + 1, 0, none⟩ = some (.int .u16 100) := hF2.cell 0
               clear hF2 hn2 kd km kz B0 c0 q0 q1 q2 q3)
  refine (N _).mono ?_
  rintro e w3 ⟨rfl, b3⟩
  have J3 := J2.below b3
  clear b3 J2 i0 N
  go_wp2_with fail
  refine (SP _).mono ?_
  rintro e w4 ⟨rfl, b4⟩
  have J4 := J3.below b4
  have i3 : w4.cell? ⟨w.heap.size + 1 + 1 + 1, 3, none⟩ = some (.int .u32 k) := J4.ki.cell 3
  have c0 := (J4.km.cell 0).trans mc_0
  clear b4 J3 SP
  go_wp2_with (first
    | (refine wpList_load_row rfl 35 (.tmp 5) rfl (w.heap.size + 1) rfl 35 (mcC pc a x mem) (0, 0) _ J4.km.blk Tryd.underlying35 rfl (mc_inf hl) ?_)
    | (refine wpList_store_blk rfl 35 (.tmp 15) (.tmp 41) rfl w4.heap.size _ (mcC pc a x mem) 35 rfl rfl (Blk.new_ _ _ _ rfl) (vm_z19 hl) (mc_inf hl) mc_one ?_
       intro w5 hF5 hn5
       have b5 : Below w4.heap.size w4 w5 := ((Below.refl _ w4).alloc (Nat.le_refl _) _).trans (hn5.below _ (Nat.le_refl _) (by simp))
       have J5 : RJ w w5 w4.heap.size (100, y, z, k) d pc a x mem zerL (mcC pc a x mem) := ⟨J4.below b5, hF5, J4.ki.lt⟩
       have J6 := Lib.hid (J5.set_ 0 (.int .i64 (pc + 1)) (mc_s0 (pc + 1)))
       have c5 := (J5.j.km.cell 0).trans mc_0
       have t0 := (J5.kt.cell 0).trans mc_0
       have f0 := J5.kt.frozen 0
       have i5 : (w5.setCell ⟨w4.heap.size, 0, none⟩ (.int .i64 (pc + 1))).cell? ⟨w.heap.size + 1 + 1 + 1, 0, none⟩ = some (.int .u16 100) := J6.out.j.ki.cell 0
       have a5 := (J6.out.j.km.cell 1).trans mc_1
       clear hn5 hF5 b5 J5 c0 i3 J4))
  refine (AL _).mono ?_
  rintro e w6 ⟨rfl, hw6⟩
  subst w6
  have JJ := J6.out
  clear J6 i5 a5 t0 f0 c5 AL
  generalize w5.setCell ⟨w4.heap.size, 0, none⟩ (.int .i64 (pc + 1)) = V at JJ ⊢
  have t1 := (JJ.kt.cell 1).trans mc_1
  have f1 := JJ.kt.frozen 1
  have J7 := Lib.hid (JJ.set_ 1 (.int .u32 v) (mc_s1 v))
  clear JJ
  go_wp2_with (first
    | (refine wpList_load_row rfl 35 (.tmp 15) rfl w4.heap.size rfl 35 (mcC (pc + 1) v x mem) (0, 0) _ J7.out.kt.blk Tryd.underlying35 rfl (mc_inf hl) ?_)
    | (refine wpList_store_blk rfl 35 (.tmp 6) (.tmp 161) rfl (w.heap.size + 1 + 1) _ (mcC (pc + 1) v x mem) 35 rfl rfl J7.out.j.kz (vm_z19 hl) (mc_inf hl) mc_one ?_; intro w9 hw9 hn9))
  refine bodyPost_ret (v := .tuple #[.agg (mcC (pc + 1) v x mem), .int .u32 0, .bool false]) (results_row_two rfl _ _ (w.heap.size + 1 + 1) 35 (mcC (pc + 1) v x mem) (0, 0) _ rfl hw9.blk Tryd.underlying35 rfl (mc_inf hl) _ _ rfl rfl) rfl ?_
  exact ⟨rfl, (J7.out.j.out hn9 hw9).old⟩

set_option maxRecDepth 100000 in
set_option maxHeartbeats 4000000 in
theorem rstep_108 (y z k : Int) (A : Option Addr) (m cap : Nat) (f : Nat → Ins) (d : Dat) (hd : DatOk d) (s : VmS) (hok : VmOk s) (w : World) (hA : Ri w w.heap.size A m f) (hcap : m ≤ cap) (hm : m ≤ 64) (hs : s.pc < m) (hf : f s.pc = (108, y, z, k)) (hv2 : aluB 108 s.a s.x = true) :
    Calls Tryd.prog 16 #[.slice A m cap, datV d, vmV s] w fun e w' => e = .returned (.tuple #[.agg (vmC ⟨s.pc + 1, aluV 108 s.a s.x, s.x, s.mem⟩), .int .u32 0, .bool false]) ∧ Below w.heap.size w w' := by
  have hspc : (s.pc : Int) < m := by omega
  have ho := hA.ok s.pc hs
  rw [hf] at ho
  obtain ⟨b, off, rfl, hbl, pI, _⟩ := hA s.pc hs
  rw [hf] at pI
  simp only at pI
  have kd := ((Blk.new w (datC d) 32).alloc (.cells (vmC s) 35)).alloc (.cells zerL 35)
  have km := (Blk.new_ (w.alloc (.cells (datC d) 32)) (vmC s) 35 (n := w.heap.size + 1) (by simp)).alloc (.cells zerL 35)
  have kz := Blk.new_ ((w.alloc (.cells (datC d) 32)).alloc (.cells (vmC s) 35)) zerL 35 (n := w.heap.size + 1 + 1) (by simp)
  have B0 := (((Below.refl w.heap.size w).alloc (Nat.le_refl _) (.cells (datC d) 32)).alloc (by simp) (.cells (vmC s) 35)).alloc (by simp; omega) (.cells zerL 35)
  have c0 := (km.cell 0).trans mc_0
  obtain ⟨q0, q1, q2, q3⟩ := ri_at B0 hbl pI
  have N := fun V => refname_any 108 V (by decide)
  rw [show nameOf 108 = (⟨#[108, 115, 104, 46, 120]⟩, true) by kernel_rfl] at N
  have SP := fun V => split_any [108, 115, 104, 46, 120] (by decide) V
  rw [show headOf [108, 115, 104, 46, 120] = [108, 115, 104] by decide, show tailOf [108, 115, 104, 46, 120] = [120] by decide] at SP
  have AL := fun V => refalu_any 108 s.a s.x (by decide) (by decide) hok.a hok.x V
  obtain ⟨v, hv⟩ : ∃ v, aluV 108 s.a s.x = v := ⟨_, rfl⟩
  rw [hv, hv2] at AL
  rw [hv]
  clear hv hv2
  obtain ⟨pc, a, x, mem⟩ := s
  have hl : mem.length = 16 := hok.len
  simp only [vmC] at kd km kz B0 c0 q0 q1 q2 q3 ⊢
  simp only at AL hspc hs hf ho
  unfold zerL at kd km kz B0 c0 q0 q1 q2 q3
  have hka : (0 : Int) ≤ pc := by omega
  unfold datV vmV
  simp only [vmC]
  go_enter Tryd.func16, Tryd.ntmps16
  go_wp2_with (refine wpList_store_blk rfl 54 (.tmp 9) (.tmp 23) rfl (w.heap.size + 1 + 1 + 1) _ (celI (108, y, z, k)).toArray 54 rfl rfl (Blk.new_ _ _ _ (by simp)) rfl (cel_inf _) (cel_ok _) ?_
               intro w2 hF2 hn2
               have J2 : RI w w2 (108, y, z, k) d pc a x mem zerL := ⟨But.blk' hn2 (kd.alloc _) (by omega), But.blk' hn2 (km.alloc _) (by omega), But.blk' hn2 (kz.alloc _) (by omega), hF2, (B0.alloc B0.size _).trans (hn2.below _ (by omega) (by simp; omega))⟩
               have i0 : w2.cell? ⟨w.heap.size + 1 + 1 + 1, 0, none⟩ = some (.int .u16 108) := hF2.cell 0
               clear hF2 hn2 kd km kz B0 c0 q0 q1 q2 q3)
  refine (N _).mono ?_
  rintro e w3 ⟨rfl, b3⟩
  have J3 := J2.below b3
  clear b3 J2 i0 N
  go_wp2_with fail
  refine (SP _).mono ?_
  rintro e w4 ⟨rfl, b4⟩
  have J4 := J3.below b4
  have i3 : w4.cell? ⟨w.heap.size + 1 + 1 + 1, 3, none⟩ = some (.int .u32 k) := J4.ki.cell 3
  have c0 := (J4.km.cell 0).trans mc_0
  have x0 : w4.cell? ⟨w.heap.size + 1, 2, none⟩ = some (.int .u32 x) := (J4.km.cell 2).trans mc_2
  clear b4 J3 SP
  go_wp2_with (first
    | (refine wpList_load_row rfl 35 (.tmp 5) rfl (w.heap.size + 1) rfl 35 (mcC pc a x mem) (0, 0) _ J4.km.blk Tryd.underlying35 rfl (mc_inf hl) ?_)
    | (refine wpList_store_blk rfl 35 (.tmp 15) (.tmp 41) rfl w4.heap.size _ (mcC pc a x mem) 35 rfl rfl (Blk.new_ _ _ _ rfl) (vm_z19 hl) (mc_inf hl) mc_one ?_
       intro w5 hF5 hn5
       have b5 : Below w4.heap.size w4 w5 := ((Below.refl _ w4).alloc (Nat.le_refl _) _).trans (hn5.below _ (Nat.le_refl _) (by simp))
       have J5 : RJ w w5 w4.heap.size (108, y, z, k) d pc a x mem zerL (mcC pc a x mem) := ⟨J4.below b5, hF5, J4.ki.lt⟩
       have J6 := Lib.hid (J5.set_ 0 (.int .i64 (pc + 1)) (mc_s0 (pc + 1)))
       have c5 := (J5.j.km.cell 0).trans mc_0
       have t0 := (J5.kt.cell 0).trans mc_0
       have f0 := J5.kt.frozen 0
       have i5 : (w5.setCell ⟨w4.heap.size, 0, none⟩ (.int .i64 (pc + 1))).cell? ⟨w.heap.size + 1 + 1 + 1, 0, none⟩ = some (.int .u16 108) := J6.out.j.ki.cell 0
       have a5 := (J6.out.j.km.cell 1).trans mc_1
       clear hn5 hF5 b5 J5 c0 x0 i3 J4))
  refine (AL _).mono ?_
  rintro e w6 ⟨rfl, hw6⟩
  subst w6
  have JJ := J6.out
  clear J6 i5 a5 t0 f0 c5 AL
  generalize w5.setCell ⟨w4.heap.size, 0, none⟩ (.int .i64 (pc + 1)) = V at JJ ⊢
  have t1 := (JJ.kt.cell 1).trans mc_1
  have f1 := JJ.kt.frozen 1
  have J7 := Lib.hid (JJ.set_ 1 (.int .u32 v) (mc_s1 v))
  clear JJ
  go_wp2_with (first
    | (refine wpList_load_row rfl 35 (.tmp 15) rfl w4.heap.size rfl 35 (mcC (pc + 1) v x mem) (0, 0) _ J7.out.kt.blk Tryd.underlying35 rfl (mc_inf hl) ?_)
    | (refine wpList_store_blk rfl 35 (.tmp 6) (.tmp 161) rfl (w.heap.size + 1 + 1) _ (mcC (pc + 1) v x mem) 35 rfl rfl J7.out.j.kz (vm_z19 hl) (mc_inf hl) mc_one ?_; intro w9 hw9 hn9))
  refine bodyPost_ret (v := .tuple #[.agg (mcC (pc + 1) v x mem), .int .u32 0, .bool false]) (results_row_two rfl _ _ (w.heap.size + 1 + 1) 35 (mcC (pc + 1) v x mem) (0, 0) _ rfl hw9.blk Tryd.underlying35 rfl (mc_inf hl) _ _ rfl rfl) rfl ?_
  exact ⟨rfl, (J7.out.j.out hn9 hw9).old⟩

set_option maxRecDepth 100000 in
set_option maxHeartbeats 4000000 in
theorem rstep_116 (y z k : Int) (A : Option Addr) (m cap : Nat) (f : Nat → Ins) (d : Dat) (hd : DatOk d) (s : VmS) (hok : VmOk s) (w : World) (hA : Ri w w.heap.size A m f) (hcap : m ≤ cap) (hm : m ≤ 64) (hs : s.pc < m) (hf : f s.pc = (116, y, z, k)) (hv2 : aluB 116 s.a k = true) :
    Calls Tryd.prog 16 #[.slice A m cap, datV d, vmV s] w fun e w' => e = .returned (.tuple #[.agg (vmC ⟨s.pc + 1, aluV 116 s.a k, s.x, s.mem⟩), .int .u32 0, .bool false]) ∧ Below w.heap.size w w' := by
  have hspc : (s.pc : Int) < m := by omega
  have ho := hA.ok s.pc hs
  rw [hf] at ho
  obtain ⟨b, off, rfl, hbl, pI, _⟩ := hA s.pc hs
  rw [hf] at pI
  simp only at pI
  have kd := ((Blk.new w (datC d) 32).alloc (.cells (vmC s) 35)).alloc (.cells zerL 35)
  have km := (Blk.new_ (w.alloc (.cells (datC d) 32)) (vmC s) 35 (n := w.heap.size + 1) (by simp)).alloc (.cells zerL 35)
  have kz := Blk.new_ ((w.alloc (.cells (datC d) 32)).alloc (.cells (vmC s) 35)) zerL 35 (n := w.heap.size + 1 + 1) (by simp)
  have B0 := (((Below.refl w.heap.size w).alloc (Nat.le_refl _) (.cells (datC d) 32)).alloc (by simp) (.cells (vmC s) 35)).alloc (by simp; omega) (.cells zerL 35)
  have c0 := (km.cell 0).trans mc_0
  obtain ⟨q0, q1, q2, q3⟩ := ri_at B0 hbl pI
  have N := fun V => refname_any 116 V (by decide)
  rw [show nameOf 116 = (⟨#[114, 115, 104, 46, 107]⟩, true) by kernel_rfl] at N
  have SP := fun V => split_any [114, 115, 104, 46, 107] (by decide) V
  rw [show headOf [114, 115, 104, 46, 107] = [114, 115, 104] by decide, show tailOf [114, 115, 104, 46, 107] = [107] by decide] at SP
  have AL := fun V => refalu_any 116 s.a k (by decide) (by decide) hok.a ⟨ho.k0, ho.k1⟩ V
  obtain ⟨v, hv⟩ : ∃ v, aluV 116 s.a k = v := ⟨_, rfl⟩
  rw [hv, hv2] at AL
  rw [hv]
  clear hv hv2
  obtain ⟨pc, a, x, mem⟩ := s
  have hl : mem.length = 16 := hok.len
  simp only [vmC] at kd km kz B0 c0 q0 q1 q2 q3 ⊢
  simp only at AL hspc hs hf ho
  unfold zerL at kd km kz B0 c0 q0 q1 q2 q3
  have hka : (0 : Int) ≤ pc := by omega
  unfold datV vmV
  simp only [vmC]
  go_enter Tryd.func16, Tryd.ntmps16
  go_wp2_with (refine wpList_store_blk rfl 54 (.tmp 9) (.tmp 23) rfl (w.heap.size + 1 + 1 + 1) _ (celI (116, y, z, k)).toArray 54 rfl rfl (Blk.new_ _ _ _ (by simp)) rfl (cel_inf _) (cel_ok _) ?_
               intro w2 hF2 hn2
               have J2 : RI w w2 (116, y, z, k) d pc a x mem zerL := ⟨But.blk' hn2 (kd.alloc _) (by omega), But.blk' hn2 (km.alloc _) (by omega), But.blk' hn2 (kz.alloc _) (by omega), hF2, (B0.alloc B0.size _).trans (hn2.below _ (by omega) (by simp; omega))⟩
               have i0 : w2.cell? ⟨w.heap.size + 1 + 1 + 1, 0, none⟩ = some (.int .u16 116) := hF2.cell 0
               clear hF2 hn2 kd km kz B0 c0 q0 q1 q2 q3)
  refine (N _).mono ?_
  rintro e w3 ⟨rfl, b3⟩
  have J3 := J2.below b3
  clear b3 J2 i0 N
  go_wp2_with fail
  refine (SP _).mono ?_
  rintro e w4 ⟨rfl, b4⟩
  have J4 := J3.below b4
  have i3 : w4.cell? ⟨w.heap.size + 1 + 1 + 1, 3, none⟩ = some (.int .u32 k) := J4.ki.cell 3
  have c0 := (J4.km.cell 0).trans mc_0
  clear b4 J3 SP
  go_wp2_with (first
    | (refine wpList_load_row rfl 35 (.tmp 5) rfl (w.heap.size + 1) rfl 35 (mcC pc a x mem) (0, 0) _ J4.km.blk Tryd.underlying35 rfl (mc_inf hl) ?_)
    | (refine wpList_store_blk rfl 35 (.tmp 15) (.tmp 41) rfl w4.heap.size _ (mcC pc a x mem) 35 rfl rfl (Blk.new_ _ _ _ rfl) (vm_z19 hl) (mc_inf hl) mc_one ?_
       intro w5 hF5 hn5
       have b5 : Below w4.heap.size w4 w5 := ((Below.refl _ w4).alloc (Nat.le_refl _) _).trans (hn5.below _ (Nat.le_refl _) (by simp))
       have J5 : RJ w w5 w4.heap.size (116, y, z, k) d pc a x mem zerL (mcC pc a x mem) := ⟨J4.below b5, hF5, J4.ki.lt⟩
       have J6 := Lib.hid (J5.set_ 0 (.int .i64 (pc + 1)) (mc_s0 (pc + 1)))
       have c5 := (J5.j.km.cell 0).trans mc_0
       have t0 := (J5.kt.cell 0).trans mc_0
       have f0 := J5.kt.frozen 0
       have i5 : (w5.setCell ⟨w4.heap.size, 0, none⟩ (.int .i64 (pc + 1))).cell? ⟨w.heap.size + 1 + 1 + 1, 0, none⟩ = some (.int .u16 116) := J6.out.j.ki.cell 0
       have a5 := (J6.out.j.km.cell 1).trans mc_1
       clear hn5 hF5 b5 J5 c0 i3 J4))
  refine (AL _).mono ?_
  rintro e w6 ⟨rfl, hw6⟩
  subst w6
  have JJ := J6.out
  clear J6 i5 a5 t0 f0 c5 AL
  generalize w5.setCell ⟨w4.heap.size, 0, none⟩ (.int .i64 (pc + 1)) = V at JJ ⊢
  have t1 := (JJ.kt.cell 1).trans mc_1
  have f1 := JJ.kt.frozen 1
  have J7 := Lib.hid (JJ.set_ 1 (.int .u32 v) (mc_s1 v))
  clear JJ
  go_wp2_with (first
    | (refine wpList_load_row rfl 35 (.tmp 15) rfl w4.heap.size rfl 35 (mcC (pc + 1) v x mem) (0, 0) _ J7.out.kt.blk Tryd.underlying35 rfl (mc_inf hl) ?_)
    | (refine wpList_store_blk rfl 35 (.tmp 6) (.tmp 161) rfl (w.heap.size + 1 + 1) _ (mcC (pc + 1) v x mem) 35 rfl rfl J7.out.j.kz (vm_z19 hl) (mc_inf hl) mc_one ?_; intro w9 hw9 hn9))
  refine bodyPost_ret (v := .tuple #[.agg (mcC (pc + 1) v x mem), .int .u32 0, .bool false]) (results_row_two rfl _ _ (w.heap.size + 1 + 1) 35 (mcC (pc + 1) v x mem) (0, 0) _ rfl hw9.blk Tryd.underlying35 rfl (mc_inf hl) _ _ rfl rfl) rfl ?_
  exact ⟨rfl, (J7.out.j.out hn9 hw9).old⟩

set_option maxRecDepth 100000 in
set_option maxHeartbeats 4000000 in
theorem rstep_124 (y z k : Int) (A : Option Addr) (m cap : Nat) (f : Nat → Ins) (d : Dat) (hd : DatOk d) (s : VmS) (hok : VmOk s) (w : World) (hA : Ri w w.heap.size A m f) (hcap : m ≤ cap) (hm : m ≤ 64) (hs : s.pc < m) (hf : f s.pc = (124, y, z, k)) (hv2 : aluB 124 s.a s.x = true) :
    Calls Tryd.prog 16 #[.slice A m cap, datV d, vmV s] w fun e w' => e = .returned (.tuple #[.agg (vmC ⟨s.pc + 1, aluV 124 s.a s.x, s.x, s.mem⟩), .int .u32 0, .bool false]) ∧ Below w.heap.size w w' := by
  have hspc : (s.pc : Int) < m := by omega
  have ho := hA.ok s.pc hs
  rw [hf] at ho
  obtain ⟨b, off, rfl, hbl, pI, _⟩ := hA s.pc hs
  rw [hf] at pI
  simp only at pI
  have kd := ((Blk.new w (datC d) 32).alloc (.cells (vmC s) 35)).alloc (.cells zerL 35)
  have km := (Blk.new_ (w.alloc (.cells (datC d) 32)) (vmC s) 35 (n := w.heap.size + 1) (by simp)).alloc (.cells zerL 35)
  have kz := Blk.new_ ((w.alloc (.cells (datC d) 32)).alloc (.cells (vmC s) 35)) zerL 35 (n := w.heap.size + 1 + 1) (by simp)
  have B0 := (((Below.refl w.heap.size w).alloc (Nat.le_refl _) (.cells (datC d) 32)).alloc (by simp) (.cells (vmC s) 35)).alloc (by simp; omega) (.cells zerL 35)
  have c0 := (km.cell 0).trans mc_0
  obtain ⟨q0, q1, q2, q3⟩ := ri_at B0 hbl pI
  have N := fun V => refname_any 124 V (by decide)
  rw [show nameOf 124 = (⟨#[114, 115, 104, 46, 120]⟩, true) by kernel_rfl] at N
  have SP := fun V => split_any [114, 115, 104, 46, 120] (by decide) V
  rw [show headOf [114, 115, 104, 46, 120] = [114, 115, 104] by decide, show tailOf [114, 115, 104, 46, 120] = [120] by decide] at SP
  have AL := fun V => refalu_any 124 s.a s.x (by decide) (by decide) hok.a hok.x V
  obtain ⟨v, hv⟩ : ∃ v, aluV 124 s.a s.x = v := ⟨_, rfl⟩
  rw [hv, hv2] at AL
  rw [hv]
  clear hv hv2
  obtain ⟨pc, a, x, mem⟩ := s
  have hl : mem.length = 16 := hok.len
  simp only [vmC] at kd km kz B0 c0 q0 q1 q2 q3 ⊢
  simp only at AL hspc hs hf ho
  unfold zerL at kd km kz B0 c0 q0 q1 q2 q3
  have hka : (0 : Int) ≤ pc := by omega
  unfold datV vmV
  simp only [vmC]
  go_enter Tryd.func16, Tryd.ntmps16
  go_wp2_with (refine wpList_store_blk rfl 54 (.tmp 9) (.tmp 23) rfl (w.heap.size + 1 + 1 + 1) _ (celI (124, y, z, k)).toArray 54 rfl rfl (Blk.new_ _ _ _ (by simp)) rfl (cel_inf _) (cel_ok _) ?_
               intro w2 hF2 hn2
               have J2 : RI w w2 (124, y, z, k) d pc a x mem zerL := ⟨But.blk' hn2 (kd.alloc _) (by omega), But.blk' hn2 (km.alloc _) (by omega), But.blk' hn2 (kz.alloc _) (by omega), hF2, (B0.alloc B0.size _).trans (hn2.below _ (by omega) (by simp; omega))⟩
               have i0 : w2.cell? ⟨w.heap.size + 1 + 1 + 1, 0, none⟩ = some (.int .u16 124) := hF2.cell 0
               clear hF2 hn2 kd km kz B0 c0 q0 q1 q2 q3)
  refine (N _).mono ?_
  rintro e w3 ⟨rfl, b3⟩
  have J3 := J2.below b3
  clear b3 J2 i0 N
  go_wp2_with fail
  refine (SP _).mono ?_
  rintro e w4 ⟨rfl, b4⟩
  have J4 := J3.below b4
  have i3 : w4.cell? ⟨w.heap.size + 1 + 1 + 1, 3, none⟩ = some (.int .u32 k) := J4.ki.cell 3
  have c0 := (J4.km.cell 0).trans mc_0
  have x0 : w4.cell? ⟨w.heap.size + 1, 2, none⟩ = some (.int .u32 x) := (J4.km.cell 2).trans mc_2
  clear b4 J3 SP
  go_wp2_with (first
    | (refine wpList_load_row rfl 35 (.tmp 5) rfl (w.heap.size + 1) rfl 35 (mcC pc a x mem) (0, 0) _ J4.km.blk Tryd.underlying35 rfl (mc_inf hl) ?_)
    | (refine wpList_store_blk rfl 35 (.tmp 15) (.tmp 41) rfl w4.heap.size _ (mcC pc a x mem) 35 rfl rfl (Blk.new_ _ _ _ rfl) (vm_z19 hl) (mc_inf hl) mc_one ?_
       intro w5 hF5 hn5
       have b5 : Below w4.heap.size w4 w5 := ((Below.refl _ w4).alloc (Nat.le_refl _) _).trans (hn5.below _ (Nat.le_refl _) (by simp))
       have J5 : RJ w w5 w4.heap.size (124, y, z, k) d pc a x mem zerL (mcC pc a x mem) := ⟨J4.below b5, hF5, J4.ki.lt⟩
       have J6 := Lib.hid (J5.set_ 0 (.int .i64 (pc + 1)) (mc_s0 (pc + 1)))
       have c5 := (J5.j.km.cell 0).trans mc_0
       have t0 := (J5.kt.cell 0).trans mc_0
       have f0 := J5.kt.frozen 0
       have i5 : (w5.setCell ⟨w4.heap.size, 0, none⟩ (.int .i64 (pc + 1))).cell? ⟨w.heap.size + 1 + 1 + 1, 0, none⟩ = some (.int .u16 124) := J6.out.j.ki.cell 0
       have a5 := (J6.out.j.km.cell 1).trans mc_1
       clear hn5 hF5 b5 J5 c0 x0 i3 J4))
  refine (AL _).mono ?_
  rintro e w6 ⟨rfl, hw6⟩
  subst w6
  have JJ := J6.out
  clear J6 i5 a5 t0 f0 c5 AL
  generalize w5.setCell ⟨w4.heap.size, 0, none⟩ (.int .i64 (pc + 1)) = V at JJ ⊢
  have t1 := (JJ.kt.cell 1).trans mc_1
  have f1 := JJ.kt.frozen 1
  have J7 := Lib.hid (JJ.set_ 1 (.int .u32 v) (mc_s1 v))
  clear JJ
  go_wp2_with (first
    | (refine wpList_load_row rfl 35 (.tmp 15) rfl w4.heap.size rfl 35 (mcC (pc + 1) v x mem) (0, 0) _ J7.out.kt.blk Tryd.underlying35 rfl (mc_inf hl) ?_)
    | (refine wpList_store_blk rfl 35 (.tmp 6) (.tmp 161) rfl (w.heap.size + 1 + 1) _ (mcC (pc + 1) v x mem) 35 rfl rfl J7.out.j.kz (vm_z19 hl) (mc_inf hl) mc_one ?_; intro w9 hw9 hn9))
  refine bodyPost_ret (v := .tuple #[.agg (mcC (pc + 1) v x mem), .int .u32 0, .bool false]) (results_row_two rfl _ _ (w.heap.size + 1 + 1) 35 (mcC (pc + 1) v x mem) (0, 0) _ rfl hw9.blk Tryd.underlying35 rfl (mc_inf hl) _ _ rfl rfl) rfl ?_
  exact ⟨rfl, (J7.out.j.out hn9 hw9).old⟩

set_option maxRecDepth 100000 in
set_option maxHeartbeats 4000000 in
theorem rstep_164 (y z k : Int) (A : Option Addr) (m cap : Nat) (f : Nat → Ins) (d : Dat) (hd : DatOk d) (s : VmS) (hok : VmOk s) (w : World) (hA : Ri w w.heap.size A m f) (hcap : m ≤ cap) (hm : m ≤ 64) (hs : s.pc < m) (hf : f s.pc = (164, y, z, k)) (hv2 : aluB 164 s.a k = true) :
    Calls Tryd.prog 16 #[.slice A m cap, datV d, vmV s] w fun e w' => e = .returned (.tuple #[.agg (vmC ⟨s.pc + 1, aluV 164 s.a k, s.x, s.mem⟩), .int .u32 0, .bool false]) ∧ Below w.heap.size w w' := by
  have hspc : (s.pc : Int) < m := by omega
  have ho := hA.ok s.pc hs
  rw [hf] at ho
  obtain ⟨b, off, rfl, hbl, pI, _⟩ := hA s.pc hs
  rw [hf] at pI
  simp only at pI
  have kd := ((Blk.new w (datC d) 32).alloc (.cells (vmC s) 35)).alloc (.cells zerL 35)
  have km := (Blk.new_ (w.alloc (.cells (datC d) 32)) (vmC s) 35 (n := w.heap.size + 1) (by simp)).alloc (.cells zerL 35)
  have kz := Blk.new_ ((w.alloc (.cells (datC d) 32)).alloc (.cells (vmC s) 35)) zerL 35 (n := w.heap.size + 1 + 1) (by simp)
  have B0 := (((Below.refl w.heap.size w).alloc (Nat.le_refl _) (.cells (datC d) 32)).alloc (by simp) (.cells (vmC s) 35)).alloc (by simp; omega) (.cells zerL 35)
  have c0 := (km.cell 0).trans mc_0
  obtain ⟨q0, q1, q2, q3⟩ := ri_at B0 hbl pI
  have N := fun V => refname_any 164 V (by decide)
  rw [show nameOf 164 = (⟨#[120, 111, 114, 46, 107]⟩, true) by kernel_rfl] at N
  have SP := fun V => split_any [120, 111, 114, 46, 107] (by decide) V
  rw [show headOf [120, 111, 114, 46, 107] = [120, 111, 114] by decide, show tailOf [120, 111, 114, 46, 107] = [107] by decide] at SP
  have AL := fun V => refalu_any 164 s.a k (by decide) (by decide) hok.a ⟨ho.k0, ho.k1⟩ V
  obtain ⟨v, hv⟩ : ∃ v, aluV 164 s.a k = v := ⟨_, rfl⟩
  rw [hv, hv2] at AL
  rw [hv]
  clear hv hv2
  obtain ⟨pc, a, x, mem⟩ := s
  have hl : mem.length = 16 := hok.len
  simp only [vmC] at kd km kz B0 c0 q0 q1 q2 q3 ⊢
  simp only at AL hspc hs hf ho
  unfold zerL at kd km kz B0 c0 q0 q1 q2 q3
  have hka : (0 : Int) ≤ pc := by omega
  unfold datV vmV
  simp only [vmC]
  go_enter Tryd.func16, Tryd.ntmps16
  go_wp2_with (refine wpList_store_blk rfl 54 (.tmp 9) (.tmp 23) rfl (w.heap.size + 1 + 1 + 1) _ (celI (164, y, z, k)).toArray 54 rfl rfl (Blk.new_ _ _ _ (by simp)) rfl (cel_inf _) (cel_ok _) ?_
               intro w2 hF2 hn2
               have J2 : RI w w2 (164, y, z, k) d pc a x mem zerL := ⟨But.blk' hn2 (kd.alloc _) (by omega), But.blk' hn2 (km.alloc _) (by omega), But.blk' hn2 (kz.alloc _) (by omega), hF2, (B0.alloc B0.size _).trans (hn2.below _ (by omega) (by simp; omega))⟩
               have i0 : w2.cell? ⟨w.heap.size + 1 + 1 + 1, 0, none⟩ = some (.int .u16 164) := hF2.cell 0
               clear hF2 hn2 kd km kz B0 c0 q0 q1 q2 q3)
  refine (N _).mono ?_
  rintro e w3 ⟨rfl, b3⟩
  have J3 := J2.below b3
  clear b3 J2 i0 N
  go_wp2_with fail
  refine (SP _).mono ?_
  rintro e w4 ⟨rfl, b4⟩
  have J4 := J3.below b4
  have i3 : w4.cell? ⟨w.heap.size + 1 + 1 + 1, 3, none⟩ = some (.int .u32 k) := J4.ki.cell 3
  have c0 := (J4.km.cell 0).trans mc_0
  clear b4 J3 SP
  go_wp2_with (first
    | (refine wpList_load_row rfl 35 (.tmp 5) rfl (w.heap.size + 1) rfl 35 (mcC pc a x mem) (0, 0) _ J4.km.blk Tryd.underlying35 rfl (mc_inf hl) ?_)
    | (refine wpList_store_blk rfl 35 (.tmp 15) (.tmp 41) rfl w4.heap.size _ (mcC pc a x mem) 35 rfl rfl (Blk.new_ _ _ _ rfl) (vm_z19 hl) (mc_inf hl) mc_one ?_
       intro w5 hF5 hn5
       have b5 : Below w4.heap.size w4 w5 := ((Below.refl _ w4).alloc (Nat.le_refl _) _).trans (hn5.below _ (Nat.le_refl _) (by simp))
       have J5 : RJ w w5 w4.heap.size (164, y, z, k) d pc a x mem zerL (mcC pc a x mem) := ⟨J4.below b5, hF5, J4.ki.lt⟩
       have J6 := Lib.hid (J5.set_ 0 (.int .i64 (pc + 1)) (mc_s0 (pc + 1)))
       have c5 := (J5.j.km.cell 0).trans mc_0
       have t0 := (J5.kt.cell 0).trans mc_0
       have f0 := J5.kt.frozen 0
       have i5 : (w5.setCell ⟨w4.heap.size, 0, none⟩ (.int .i64 (pc + 1))).cell? ⟨w.heap.size + 1 + 1 + 1, 0, none⟩ = some (.int .u16 164) := J6.out.j.ki.cell 0
       have a5 := (J6.out.j.km.cell 1).trans mc_1
       clear hn5 hF5 b5 J5 c0 i3 J4))
  refine (AL _).mono ?_
  rintro e w6 ⟨rfl, hw6⟩
  subst w6
  have JJ := J6.out
  clear J6 i5 a5 t0 f0 c5 AL
  generalize w5.setCell ⟨w4.heap.size, 0, none⟩ (.int .i64 (pc + 1)) = V at JJ ⊢
  have t1 := (JJ.kt.cell 1).trans mc_1
  have f1 := JJ.kt.frozen 1
  have J7 := Lib.hid (JJ.set_ 1 (.int .u32 v) (mc_s1 v))
  clear JJ
  go_wp2_with (first
    | (refine wpList_load_row rfl 35 (.tmp 15) rfl w4.heap.size rfl 35 (mcC (pc + 1) v x mem) (0, 0) _ J7.out.kt.blk Tryd.underlying35 rfl (mc_inf hl) ?_)
    | (refine wpList_store_blk rfl 35 (.tmp 6) (.tmp 161) rfl (w.heap.size + 1 + 1) _ (mcC (pc + 1) v x mem) 35 rfl rfl J7.out.j.kz (vm_z19 hl) (mc_inf hl) mc_one ?_; intro w9 hw9 hn9))
  refine bodyPost_ret (v := .tuple #[.agg (mcC (pc + 1) v x mem), .int .u32 0, .bool false]) (results_row_two rfl _ _ (w.heap.size + 1 + 1) 35 (mcC (pc + 1) v x mem) (0, 0) _ rfl hw9.blk Tryd.underlying35 rfl (mc_inf hl) _ _ rfl rfl) rfl ?_
  exact ⟨rfl, (J7.out.j.out hn9 hw9).old⟩

set_option maxRecDepth 100000 in
set_option maxHeartbeats 4000000 in
theorem rstep_172 (y z k : Int) (A : Option Addr) (m cap : Nat) (f : Nat → Ins) (d : Dat) (hd : DatOk d) (s : VmS) (hok : VmOk s) (w : World) (hA : Ri w w.heap.size A m f) (hcap : m ≤ cap) (hm : m ≤ 64) (hs : s.pc < m) (hf : f s.pc = (172, y, z, k)) (hv2 : aluB 172 s.a s.x = true) :
    Calls Tryd.prog 16 #[.slice A m cap, datV d, vmV s] w fun e w' => e = .returned (.tuple #[.agg (vmC ⟨s.pc + 1, aluV 172 s.a s.x, s.x, s.mem⟩), .int .u32 0, .bool false]) ∧ Below w.heap.size w w' := by
  have hspc : (s.pc : Int) < m := by omega
  have ho := hA.ok s.pc hs
  rw [hf] at ho
  obtain ⟨b, off, rfl, hbl, pI, _⟩ := hA s.pc hs
  rw [hf] at pI
  simp only at pI
  have kd := ((Blk.new w (datC d) 32).alloc (.cells (vmC s) 35)).alloc (.cells zerL 35)
  have km := (Blk.new_ (w.alloc (.cells (datC d) 32)) (vmC s) 35 (n := w.heap.size + 1) (by simp)).alloc (.cells zerL 35)
  have kz := Blk.new_ ((w.alloc (.cells (datC d) 32)).alloc (.cells (vmC s) 35)) zerL 35 (n := w.heap.size + 1 + 1) (by simp)
  have B0 := (((Below.refl w.heap.size w).alloc (Nat.le_refl _) (.cells (datC d) 32)).alloc (by simp) (.cells (vmC s) 35)).alloc (by simp; omega) (.cells zerL 35)
  have c0 := (km.cell 0).trans mc_0
  obtain ⟨q0, q1, q2, q3⟩ := ri_at B0 hbl pI
  have N := fun V => refname_any 172 V (by decide)
  rw [show nameOf 172 = (⟨#[120, 111, 114, 46, 120]⟩, true) by kernel_rfl] at N
  have SP := fun V => split_any [120, 111, 114, 46, 120] (by decide) V
  rw [show headOf [120, 111, 114, 46, 120] = [120, 111, 114] by decide, show tailOf [120, 111, 114, 46, 120] = [120] by decide] at SP
  have AL := fun V => refalu_any 172 s.a s.x (by decide) (by decide) hok.a hok.x V
  obtain ⟨v, hv⟩ : ∃ v, aluV 172 s.a s.x = v := ⟨_, rfl⟩
  rw [hv, hv2] at AL
  rw [hv]
  clear hv hv2
  obtain ⟨pc, a, x, mem⟩ := s
  have hl : mem.length = 16 := hok.len
  simp only [vmC] at kd km kz B0 c0 q0 q1 q2 q3 ⊢
  simp only at AL hspc hs hf ho
  unfold zerL at kd km kz B0 c0 q0 q1 q2 q3
  have hka : (0 : Int) ≤ pc := by omega
  unfold datV vmV
  simp only [vmC]
  go_enter Tryd.func16, Tryd.ntmps16
  go_wp2_with (refine wpList_store_blk rfl 54 (.tmp 9) (.tmp 23) rfl (w.heap.size + 1 + 1 + 1) _ (celI (172, y, z, k)).toArray 54 rfl rfl (Blk.new_ _ _ _ (by simp)) rfl (cel_inf _) (cel_ok _) ?_
               intro w2 hF2 hn2
               have J2 : RI w w2 (172, y, z, k) d pc a x mem zerL := ⟨But.blk' hn2 (kd.alloc _) (by omega), But.blk' hn2 (km.alloc _) (by omega), But.blk' hn2 (kz.alloc _) (by omega), hF2, (B0.alloc B0.size _).trans (hn2.below _ (by omega) (by simp; omega))⟩
               have i0 : w2.cell? ⟨w.heap.size + 1 + 1 + 1, 0, none⟩ = some (.int .u16 172) := hF2.cell 0
               clear hF2 hn2 kd km kz B0 c0 q0 q1 q2 q3)
  refine (N _).mono ?_
  rintro e w3 ⟨rfl, b3⟩
  have J3 := J2.below b3
  clear b3 J2 i0 N
  go_wp2_with fail
  refine (SP _).mono ?_
  rintro e w4 ⟨rfl, b4⟩
  have J4 := J3.below b4
  have i3 : w4.cell? ⟨w.heap.size + 1 + 1 + 1, 3, none⟩ = some (.int .u32 k) := J4.ki.cell 3
  have c0 := (J4.km.cell 0).trans mc_0
  have x0 : w4.cell? ⟨w.heap.size + 1, 2, none⟩ = some (.int .u32 x) := (J4.km.cell 2).trans mc_2
  clear b4 J3 SP
  go_wp2_with (first
    | (refine wpList_load_row rfl 35 (.tmp 5) rfl (w.heap.size + 1) rfl 35 (mcC pc a x mem) (0, 0) _ J4.km.blk Tryd.underlying35 rfl (mc_inf hl) ?_)
    | (refine wpList_store_blk rfl 35 (.tmp 15) (.tmp 41) rfl w4.heap.size _ (mcC pc a x mem) 35 rfl rfl (Blk.new_ _ _ _ rfl) (vm_z19 hl) (mc_inf hl) mc_one ?_
       intro w5 hF5 hn5
       have b5 : Below w4.heap.size w4 w5 := ((Below.refl _ w4).alloc (Nat.le_refl _) _).trans (hn5.below _ (Nat.le_refl _) (by simp))
       have J5 : RJ w w5 w4.heap.size (172, y, z, k) d pc a x mem zerL (mcC pc a x mem) := ⟨J4.below b5, hF5, J4.ki.lt⟩
       have J6 := Lib.hid (J5.set_ 0 (.int .i64 (pc + 1)) (mc_s0 (pc + 1)))
       have c5 := (J5.j.km.cell 0).trans mc_0
       have t0 := (J5.kt.cell 0).trans mc_0
       have f0 := J5.kt.frozen 0
       have i5 : (w5.setCell ⟨w4.heap.size, 0, none⟩ (.int .i64 (pc + 1))).cell? ⟨w.heap.size + 1 + 1 + 1, 0, none⟩ = some (.int .u16 172) := J6.out.j.ki.cell 0
       have a5 := (J6.out.j.km.cell 1).trans mc_1
       clear hn5 hF5 b5 J5 c0 x0 i3 J4))
  refine (AL _).mono ?_
  rintro e w6 ⟨rfl, hw6⟩
  subst w6
  have JJ := J6.out
  clear J6 i5 a5 t0 f0 c5 AL
  generalize w5.setCell ⟨w4.heap.size, 0, none⟩ (.int .i64 (pc + 1)) = V at JJ ⊢
  have t1 := (JJ.kt.cell 1).trans mc_1
  have f1 := JJ.kt.frozen 1
  have J7 := Lib.hid (JJ.set_ 1 (.int .u32 v) (mc_s1 v))
  clear JJ
  go_wp2_with (first
    | (refine wpList_load_row rfl 35 (.tmp 15) rfl w4.heap.size rfl 35 (mcC (pc + 1) v x mem) (0, 0) _ J7.out.kt.blk Tryd.underlying35 rfl (mc_inf hl) ?_)
    | (refine wpList_store_blk rfl 35 (.tmp 6) (.tmp 161) rfl (w.heap.size + 1 + 1) _ (mcC (pc + 1) v x mem) 35 rfl rfl J7.out.j.kz (vm_z19 hl) (mc_inf hl) mc_one ?_; intro w9 hw9 hn9))
  refine bodyPost_ret (v := .tuple #[.agg (mcC (pc + 1) v x mem), .int .u32 0, .bool false]) (results_row_two rfl _ _ (w.heap.size + 1 + 1) 35 (mcC (pc + 1) v x mem) (0, 0) _ rfl hw9.blk Tryd.underlying35 rfl (mc_inf hl) _ _ rfl rfl) rfl ?_
  exact ⟨rfl, (J7.out.j.out hn9 hw9).old⟩
end Go.Proofs.YtepkhkfdokinmaaDoor
