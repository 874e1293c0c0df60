/-
  The reference's Step, walked: loads, stores, moves, jumps, returns, neg, a division by nought.
-/
import Derived.Test.YtepkhkfdokinmaaDoorRefSt
namespace Go.Proofs.YtepkhkfdokinmaaDoor
open Go.RowKit
set_option linter.unusedVariables false
set_option linter.unusedSimpArgs false

/-- What the reference's Step has made for itself, but for the result. -/
structure RK (w V : World) (q : Ins) (d : Dat) (p a x : Int) (mem : List Int) : Prop where
  kd : Blk V w.heap.size (datC d) 32
  km : Blk V (w.heap.size + 1) (mcC p a x mem) 35
  ki : Blk V (w.heap.size + 1 + 1 + 1) (celI q).toArray 54
  old : Below w.heap.size w V
theorem region_cutF {P : Program} {id : Nat} {ops : Array Oper} {dr : Bool} {Q : Exit → Act → World → Prop} {a : Act} {w : World} (F : Act) (H : World → Prop)
    (h1 : (Code.region id ops dr).wp P (fun e a' w' => e = .normal ∧ a' = F ∧ H w') a w) (h2 : ∀ w', H w' → Q .normal F w') : (Code.region id ops dr).wp P Q a w :=
  Code.wp_mono (fun e a' w' h => by obtain ⟨he, ha, hg⟩ := h; subst he ha; exact h2 _ hg) h1
/-- One cell stored into a block that is known whole. -/
theorem wpList_store_fld {P : Program} {ops : Array Oper} {rest : List Oper} {o : Oper} {a : Act} {w : World} {Q : Exit → Act → World → Prop} (hgd : o.guard = none) (ty : TypeId) (x y : Operand) (ho : o.op = .store ty x y)
    (g k : Nat) (cs : Array Value) (t : TypeId) (v : Value) (hx : a.eval x = .pointer (some ⟨g, k, none⟩)) (hy : a.eval y = v) (hb : Blk w g cs t) (hk : k < cs.size)
    (hi : (P.info? ty).map (·.size) = some 1) (hv : v.cells = #[v]) (h1 : v.oneCell' = true) (h : ∀ w', Blk w' g (cs.setIfInBounds k v) t → But g w w' → wpList P ops Q rest (a.put o.dst undef) w') : wpList P ops Q (o :: rest) a w := by
  refine wpList_plain hgd fun K hK => ?_
  have hs := run_storeCells_at (P := P) g k t [v] 0 cs w hb.blk (by simp; omega) (fun u hu => by simp at hu; subst hu; exact h1)
  have e : (cs.toList.take (k + 0) ++ [v] ++ cs.toList.drop (k + 0 + [v].length)).toArray = cs.setIfInBounds k v := by
    apply Array.ext'
    simp [List.set_eq_take_append_cons_drop, hk]
  rw [e] at hs
  cases hq : P.info? ty with
  | none => simp [hq] at hi
  | some i =>
    have hs' : i.size = 1 := by simpa [hq] using hi
    have hrun : (storeVar ty ⟨g, k, none⟩ v).run P w = .ok () (w.setRow g (cs.setIfInBounds k v)) := by simp [storeVar, sizeOf, typeInfo, hq, hv, hs', hs]
    unfold Oper.wp execOp
    simp only [ho, hx, hy, Instr.storeAt, Instr.sureAddr, Sem.run_bind, Sem.run_pure, Result.andThen_ok, hrun]
    have q := setRow_blk (cs' := cs.setIfInBounds k v) hb
    exact hK _ _ (h _ q.1 q.2)
theorem inf_int : (Tryd.prog.info? 3).map (·.size) = some 1 := by kernel_rfl
theorem inf_u32 : (Tryd.prog.info? 23).map (·.size) = some 1 := by kernel_rfl
theorem RJ.put {w V V' : World} {g : Nat} {q : Ins} {d : Dat} {p a x : Int} {mem : List Int} {r t : Array Value} (h : RJ w V g q d p a x mem r t) {k : Nat} {v : Value} {t' : Array Value} (hb : Blk V' g (t.setIfInBounds k v) 35) (n : But g V V') (hu : t.setIfInBounds k v = t') : RJ w V' g q d p a x mem r t' :=
  ⟨h.j.but n h.hg, hu ▸ hb, h.hg⟩
theorem RJ.old {w V : World} {g : Nat} {q : Ins} {d : Dat} {p a x : Int} {mem : List Int} {r t : Array Value} (h : RJ w V g q d p a x mem r t) : Below w.heap.size w V := h.j.old

set_option maxRecDepth 100000 in
set_option maxHeartbeats 4000000 in
theorem rstep_0 (y z k : Int) (A : Option Addr) (m cap : Nat) (f : Nat → Ins) (d : Dat) (hd : DatOk d) (s : VmS) (hok : VmOk s) (w : World) (hA : Ri w w.heap.size A m f) (hcap : m ≤ cap) (hm : m ≤ 64) (hs : s.pc < m) (hf : f s.pc = (0, y, z, k)) :
    Calls Tryd.prog 16 #[.slice A m cap, datV d, vmV s] w fun e w' => e = .returned (.tuple #[.agg (mcC ((s.pc : Int) + 1) (k) s.x s.mem), .int .u32 (0), .bool false]) ∧ Below w.heap.size w w' := by
  have hspc : (s.pc : Int) < m := by omega
  have ho := hA.ok s.pc hs
  rw [hf] at ho
  obtain ⟨b, off, rfl, hbl, pI, _⟩ := hA s.pc hs
  rw [hf] at pI
  simp only at pI
  have kd := ((Blk.new w (datC d) 32).alloc (.cells (vmC s) 35)).alloc (.cells zerL 35)
  have km := (Blk.new_ (w.alloc (.cells (datC d) 32)) (vmC s) 35 (n := w.heap.size + 1) (by simp)).alloc (.cells zerL 35)
  have kz := Blk.new_ ((w.alloc (.cells (datC d) 32)).alloc (.cells (vmC s) 35)) zerL 35 (n := w.heap.size + 1 + 1) (by simp)
  have B0 := (((Below.refl w.heap.size w).alloc (Nat.le_refl _) (.cells (datC d) 32)).alloc (by simp) (.cells (vmC s) 35)).alloc (by simp; omega) (.cells zerL 35)
  have c0 := (km.cell 0).trans mc_0
  obtain ⟨q0, q1, q2, q3⟩ := ri_at B0 hbl pI
  have N := fun V => refname_any 0 V (by decide)
  rw [show nameOf 0 = (⟨#[108, 100, 46, 105, 109, 109]⟩, true) by kernel_rfl] at N
  have SP := fun V => split_any [108, 100, 46, 105, 109, 109] (by decide) V
  rw [show headOf [108, 100, 46, 105, 109, 109] = [108, 100] by decide, show tailOf [108, 100, 46, 105, 109, 109] = [105, 109, 109] by decide] at SP
  obtain ⟨pc, a, x, mem⟩ := s
  have hl : mem.length = 16 := hok.len
  have ha32 : U32 a := hok.a
  have hx32 : U32 x := hok.x
  simp only [vmC] at kd km kz B0 c0 q0 q1 q2 q3
  simp only at hspc hs hf ho
  unfold zerL at kd km kz B0 c0 q0 q1 q2 q3
  have hka : (0 : Int) ≤ pc := by omega
  unfold datV vmV
  simp only [vmC]
  go_enter Tryd.func16, Tryd.ntmps16
  go_wp2_with (refine wpList_store_blk rfl 54 (.tmp 9) (.tmp 23) rfl (w.heap.size + 1 + 1 + 1) _ (celI (0, y, z, k)).toArray 54 rfl rfl (Blk.new_ _ _ _ (by simp)) rfl (cel_inf _) (cel_ok _) ?_
               intro w2 hF2 hn2
               have J2 : RI w w2 (0, y, z, k) d pc a x mem zerL := ⟨But.blk' hn2 (kd.alloc _) (by omega), But.blk' hn2 (km.alloc _) (by omega), But.blk' hn2 (kz.alloc _) (by omega), hF2, (B0.alloc B0.size _).trans (hn2.below _ (by omega) (by simp; omega))⟩
               have i0 : w2.cell? ⟨w.heap.size + 1 + 1 + 1, 0, none⟩ = some (.int .u16 0) := hF2.cell 0
               clear hF2 hn2 kd km kz B0 c0 q0 q1 q2 q3)
  refine (N _).mono ?_
  rintro e w3 ⟨rfl, b3⟩
  have J3 := J2.below b3
  clear b3 J2 i0 N
  go_wp2_with fail
  refine (SP _).mono ?_
  rintro e w4 ⟨rfl, b4⟩
  have J4 := J3.below b4
  have i3 : w4.cell? ⟨w.heap.size + 1 + 1 + 1, 3, none⟩ = some (.int .u32 (k)) := J4.ki.cell 3
  have c0 := (J4.km.cell 0).trans mc_0
  have x0 : w4.cell? ⟨w.heap.size + 1, 2, none⟩ = some (.int .u32 x) := (J4.km.cell 2).trans mc_2
  clear b4 J3 SP
  go_wp2_with (first
    | (refine wpList_load_row rfl 35 (.tmp 5) rfl (w.heap.size + 1) rfl 35 (mcC pc a x mem) (0, 0) _ J4.km.blk Tryd.underlying35 rfl (mc_inf hl) ?_)
    | (refine wpList_store_blk rfl 35 (.tmp 15) (.tmp 41) rfl w4.heap.size _ (mcC pc a x mem) 35 rfl rfl (Blk.new_ _ _ _ rfl) (vm_z19 hl) (mc_inf hl) mc_one ?_
       intro w5 hF5 hn5
       have b5 : Below w4.heap.size w4 w5 := ((Below.refl _ w4).alloc (Nat.le_refl _) _).trans (hn5.below _ (Nat.le_refl _) (by simp))
       have J5 : RJ w w5 w4.heap.size (0, y, z, k) d pc a x mem zerL (mcC pc a x mem) := ⟨J4.below b5, hF5, J4.ki.lt⟩
       have c5 := (J5.j.km.cell 0).trans mc_0
       clear hn5 hF5 b5 c0 x0 i3 J4)
    | (refine wpList_store_fld rfl 3 (.tmp 45) (.tmp 44) rfl w4.heap.size 0 (mcC pc a x mem) 35 _ rfl rfl J5.kt (by rw [mc_size hl]; omega) inf_int rfl rfl ?_
       intro V hF6 hn6
       have J := J5.put hF6 hn6 (mc_s0 ((pc : Int) + 1))
       clear hF6 hn6 J5 c5
       have i0 : V.cell? ⟨w.heap.size + 1 + 1 + 1, 0, none⟩ = some (.int .u16 0) := J.j.ki.cell 0
       have i1 : V.cell? ⟨w.heap.size + 1 + 1 + 1, 1, none⟩ = some (.int .u8 y) := J.j.ki.cell 1
       have i2 : V.cell? ⟨w.heap.size + 1 + 1 + 1, 2, none⟩ = some (.int .u8 z) := J.j.ki.cell 2
       have i3 : V.cell? ⟨w.heap.size + 1 + 1 + 1, 3, none⟩ = some (.int .u32 (k)) := J.j.ki.cell 3
       have m1 := (J.j.km.cell 1).trans mc_1
       have m2 := (J.j.km.cell 2).trans mc_2
       have t0 := (J.kt.cell 0).trans mc_0)
    | (refine wpList_store_fld rfl 23 (.tmp 86) (.tmp 85) rfl w4.heap.size 1 (mcC ((pc : Int) + 1) a x mem) 35 _ rfl rfl J.kt (by rw [mc_size hl]; omega) inf_u32 rfl rfl ?_
       intro V2 hF7 hn7
       have J2 := J.put hF7 hn7 (t' := mcC ((pc : Int) + 1) k x mem) (mc_s1 k)
       clear hF7 hn7)
    | (refine wpList_load_row rfl 35 (.tmp 15) rfl w4.heap.size rfl 35 (mcC ((pc : Int) + 1) k x mem) (0, 0) _ J2.kt.blk Tryd.underlying35 rfl (mc_inf hl) ?_)
    | (refine wpList_store_blk rfl 35 (.tmp 6) (.tmp 161) rfl (w.heap.size + 1 + 1) _ (mcC ((pc : Int) + 1) k x mem) 35 rfl rfl J2.j.kz (vm_z19 hl) (mc_inf hl) mc_one ?_; intro w9 hw9 hn9))
  refine bodyPost_ret (v := .tuple #[.agg (mcC ((pc : Int) + 1) k x mem), .int .u32 0, .bool false]) (results_row_two rfl _ _ (w.heap.size + 1 + 1) 35 (mcC ((pc : Int) + 1) k x mem) (0, 0) _ rfl hw9.blk Tryd.underlying35 rfl (mc_inf hl) _ _ rfl rfl) rfl ?_
  exact ⟨rfl, (J2.j.out hn9 hw9).old⟩

set_option maxRecDepth 100000 in
set_option maxHeartbeats 4000000 in
theorem rstep_1 (y z k : Int) (A : Option Addr) (m cap : Nat) (f : Nat → Ins) (d : Dat) (hd : DatOk d) (s : VmS) (hok : VmOk s) (w : World) (hA : Ri w w.heap.size A m f) (hcap : m ≤ cap) (hm : m ≤ 64) (hs : s.pc < m) (hf : f s.pc = (1, y, z, k)) :
    Calls Tryd.prog 16 #[.slice A m cap, datV d, vmV s] w fun e w' => e = .returned (.tuple #[.agg (mcC ((s.pc : Int) + 1) s.a (k) s.mem), .int .u32 (0), .bool false]) ∧ Below w.heap.size w w' := by
  have hspc : (s.pc : Int) < m := by omega
  have ho := hA.ok s.pc hs
  rw [hf] at ho
  obtain ⟨b, off, rfl, hbl, pI, _⟩ := hA s.pc hs
  rw [hf] at pI
  simp only at pI
  have kd := ((Blk.new w (datC d) 32).alloc (.cells (vmC s) 35)).alloc (.cells zerL 35)
  have km := (Blk.new_ (w.alloc (.cells (datC d) 32)) (vmC s) 35 (n := w.heap.size + 1) (by simp)).alloc (.cells zerL 35)
  have kz := Blk.new_ ((w.alloc (.cells (datC d) 32)).alloc (.cells (vmC s) 35)) zerL 35 (n := w.heap.size + 1 + 1) (by simp)
  have B0 := (((Below.refl w.heap.size w).alloc (Nat.le_refl _) (.cells (datC d) 32)).alloc (by simp) (.cells (vmC s) 35)).alloc (by simp; omega) (.cells zerL 35)
  have c0 := (km.cell 0).trans mc_0
  obtain ⟨q0, q1, q2, q3⟩ := ri_at B0 hbl pI
  have N := fun V => refname_any 1 V (by decide)
  rw [show nameOf 1 = (⟨#[108, 100, 120, 46, 105, 109, 109]⟩, true) by kernel_rfl] at N
  have SP := fun V => split_any [108, 100, 120, 46, 105, 109, 109] (by decide) V
  rw [show headOf [108, 100, 120, 46, 105, 109, 109] = [108, 100, 120] by decide, show tailOf [108, 100, 120, 46, 105, 109, 109] = [105, 109, 109] by decide] at SP
  obtain ⟨pc, a, x, mem⟩ := s
  have hl : mem.length = 16 := hok.len
  have ha32 : U32 a := hok.a
  have hx32 : U32 x := hok.x
  simp only [vmC] at kd km kz B0 c0 q0 q1 q2 q3
  simp only at hspc hs hf ho
  unfold zerL at kd km kz B0 c0 q0 q1 q2 q3
  have hka : (0 : Int) ≤ pc := by omega
  unfold datV vmV
  simp only [vmC]
  go_enter Tryd.func16, Tryd.ntmps16
  go_wp2_with (refine wpList_store_blk rfl 54 (.tmp 9) (.tmp 23) rfl (w.heap.size + 1 + 1 + 1) _ (celI (1, y, z, k)).toArray 54 rfl rfl (Blk.new_ _ _ _ (by simp)) rfl (cel_inf _) (cel_ok _) ?_
               intro w2 hF2 hn2
               have J2 : RI w w2 (1, y, z, k) d pc a x mem zerL := ⟨But.blk' hn2 (kd.alloc _) (by omega), But.blk' hn2 (km.alloc _) (by omega), But.blk' hn2 (kz.alloc _) (by omega), hF2, (B0.alloc B0.size _).trans (hn2.below _ (by omega) (by simp; omega))⟩
               have i0 : w2.cell? ⟨w.heap.size + 1 + 1 + 1, 0, none⟩ = some (.int .u16 1) := hF2.cell 0
               clear hF2 hn2 kd km kz B0 c0 q0 q1 q2 q3)
  refine (N _).mono ?_
  rintro e w3 ⟨rfl, b3⟩
  have J3 := J2.below b3
  clear b3 J2 i0 N
  go_wp2_with fail
  refine (SP _).mono ?_
  rintro e w4 ⟨rfl, b4⟩
  have J4 := J3.below b4
  have i3 : w4.cell? ⟨w.heap.size + 1 + 1 + 1, 3, none⟩ = some (.int .u32 (k)) := J4.ki.cell 3
  have c0 := (J4.km.cell 0).trans mc_0
  have x0 : w4.cell? ⟨w.heap.size + 1, 2, none⟩ = some (.int .u32 x) := (J4.km.cell 2).trans mc_2
  clear b4 J3 SP
  go_wp2_with (first
    | (refine wpList_load_row rfl 35 (.tmp 5) rfl (w.heap.size + 1) rfl 35 (mcC pc a x mem) (0, 0) _ J4.km.blk Tryd.underlying35 rfl (mc_inf hl) ?_)
    | (refine wpList_store_blk rfl 35 (.tmp 15) (.tmp 41) rfl w4.heap.size _ (mcC pc a x mem) 35 rfl rfl (Blk.new_ _ _ _ rfl) (vm_z19 hl) (mc_inf hl) mc_one ?_
       intro w5 hF5 hn5
       have b5 : Below w4.heap.size w4 w5 := ((Below.refl _ w4).alloc (Nat.le_refl _) _).trans (hn5.below _ (Nat.le_refl _) (by simp))
       have J5 : RJ w w5 w4.heap.size (1, y, z, k) d pc a x mem zerL (mcC pc a x mem) := ⟨J4.below b5, hF5, J4.ki.lt⟩
       have c5 := (J5.j.km.cell 0).trans mc_0
       clear hn5 hF5 b5 c0 x0 i3 J4)
    | (refine wpList_store_fld rfl 3 (.tmp 45) (.tmp 44) rfl w4.heap.size 0 (mcC pc a x mem) 35 _ rfl rfl J5.kt (by rw [mc_size hl]; omega) inf_int rfl rfl ?_
       intro V hF6 hn6
       have J := J5.put hF6 hn6 (mc_s0 ((pc : Int) + 1))
       clear hF6 hn6 J5 c5
       have i0 : V.cell? ⟨w.heap.size + 1 + 1 + 1, 0, none⟩ = some (.int .u16 1) := J.j.ki.cell 0
       have i1 : V.cell? ⟨w.heap.size + 1 + 1 + 1, 1, none⟩ = some (.int .u8 y) := J.j.ki.cell 1
       have i2 : V.cell? ⟨w.heap.size + 1 + 1 + 1, 2, none⟩ = some (.int .u8 z) := J.j.ki.cell 2
       have i3 : V.cell? ⟨w.heap.size + 1 + 1 + 1, 3, none⟩ = some (.int .u32 (k)) := J.j.ki.cell 3
       have m1 := (J.j.km.cell 1).trans mc_1
       have m2 := (J.j.km.cell 2).trans mc_2
       have t0 := (J.kt.cell 0).trans mc_0)
    | (refine wpList_store_fld rfl 23 (.tmp 90) (.tmp 89) rfl w4.heap.size 2 (mcC ((pc : Int) + 1) a x mem) 35 _ rfl rfl J.kt (by rw [mc_size hl]; omega) inf_u32 rfl rfl ?_
       intro V2 hF7 hn7
       have J2 := J.put hF7 hn7 (t' := mcC ((pc : Int) + 1) a k mem) (mc_s2 k)
       clear hF7 hn7)
    | (refine wpList_load_row rfl 35 (.tmp 15) rfl w4.heap.size rfl 35 (mcC ((pc : Int) + 1) a k mem) (0, 0) _ J2.kt.blk Tryd.underlying35 rfl (mc_inf hl) ?_)
    | (refine wpList_store_blk rfl 35 (.tmp 6) (.tmp 161) rfl (w.heap.size + 1 + 1) _ (mcC ((pc : Int) + 1) a k mem) 35 rfl rfl J2.j.kz (vm_z19 hl) (mc_inf hl) mc_one ?_; intro w9 hw9 hn9))
  refine bodyPost_ret (v := .tuple #[.agg (mcC ((pc : Int) + 1) a k mem), .int .u32 0, .bool false]) (results_row_two rfl _ _ (w.heap.size + 1 + 1) 35 (mcC ((pc : Int) + 1) a k mem) (0, 0) _ rfl hw9.blk Tryd.underlying35 rfl (mc_inf hl) _ _ rfl rfl) rfl ?_
  exact ⟨rfl, (J2.j.out hn9 hw9).old⟩

set_option maxRecDepth 100000 in
set_option maxHeartbeats 4000000 in
theorem rstep_2 (y z k : Int) (A : Option Addr) (m cap : Nat) (f : Nat → Ins) (d : Dat) (hd : DatOk d) (s : VmS) (hok : VmOk s) (w : World) (hA : Ri w w.heap.size A m f) (hcap : m ≤ cap) (hm : m ≤ 64) (hs : s.pc < m) (hf : f s.pc = (2, y, z, k)) (kn : Nat) (hkn : k = (kn : Int)) (h16 : kn < 16) :
    Calls Tryd.prog 16 #[.slice A m cap, datV d, vmV s] w fun e w' => e = .returned (.tuple #[.agg (mcC ((s.pc : Int) + 1) s.a s.x (s.mem.set kn s.a)), .int .u32 (0), .bool false]) ∧ Below w.heap.size w w' := by
  have hspc : (s.pc : Int) < m := by omega
  have ho := hA.ok s.pc hs
  rw [hf] at ho
  obtain ⟨b, off, rfl, hbl, pI, _⟩ := hA s.pc hs
  rw [hf] at pI
  simp only at pI
  have kd := ((Blk.new w (datC d) 32).alloc (.cells (vmC s) 35)).alloc (.cells zerL 35)
  have km := (Blk.new_ (w.alloc (.cells (datC d) 32)) (vmC s) 35 (n := w.heap.size + 1) (by simp)).alloc (.cells zerL 35)
  have kz := Blk.new_ ((w.alloc (.cells (datC d) 32)).alloc (.cells (vmC s) 35)) zerL 35 (n := w.heap.size + 1 + 1) (by simp)
  have B0 := (((Below.refl w.heap.size w).alloc (Nat.le_refl _) (.cells (datC d) 32)).alloc (by simp) (.cells (vmC s) 35)).alloc (by simp; omega) (.cells zerL 35)
  have c0 := (km.cell 0).trans mc_0
  obtain ⟨q0, q1, q2, q3⟩ := ri_at B0 hbl pI
  have N := fun V => refname_any 2 V (by decide)
  rw [show nameOf 2 = (⟨#[115, 116]⟩, true) by kernel_rfl] at N
  have SP := fun V => split_any [115, 116] (by decide) V
  rw [show headOf [115, 116] = [115, 116] by decide, show tailOf [115, 116] = [] by decide] at SP
  subst hkn
  have h16' : (kn : Int) < 16 := by omega
  obtain ⟨pc, a, x, mem⟩ := s
  have hl : mem.length = 16 := hok.len
  have ha32 : U32 a := hok.a
  have hx32 : U32 x := hok.x
  simp only [vmC] at kd km kz B0 c0 q0 q1 q2 q3
  simp only at hspc hs hf ho
  unfold zerL at kd km kz B0 c0 q0 q1 q2 q3
  have hka : (0 : Int) ≤ pc := by omega
  unfold datV vmV
  simp only [vmC]
  go_enter Tryd.func16, Tryd.ntmps16
  go_wp2_with (refine wpList_store_blk rfl 54 (.tmp 9) (.tmp 23) rfl (w.heap.size + 1 + 1 + 1) _ (celI (2, y, z, (kn : Int))).toArray 54 rfl rfl (Blk.new_ _ _ _ (by simp)) rfl (cel_inf _) (cel_ok _) ?_
               intro w2 hF2 hn2
               have J2 : RI w w2 (2, y, z, (kn : Int)) d pc a x mem zerL := ⟨But.blk' hn2 (kd.alloc _) (by omega), But.blk' hn2 (km.alloc _) (by omega), But.blk' hn2 (kz.alloc _) (by omega), hF2, (B0.alloc B0.size _).trans (hn2.below _ (by omega) (by simp; omega))⟩
               have i0 : w2.cell? ⟨w.heap.size + 1 + 1 + 1, 0, none⟩ = some (.int .u16 2) := hF2.cell 0
               clear hF2 hn2 kd km kz B0 c0 q0 q1 q2 q3)
  refine (N _).mono ?_
  rintro e w3 ⟨rfl, b3⟩
  have J3 := J2.below b3
  clear b3 J2 i0 N
  go_wp2_with fail
  refine (SP _).mono ?_
  rintro e w4 ⟨rfl, b4⟩
  have J4 := J3.below b4
  have i3 : w4.cell? ⟨w.heap.size + 1 + 1 + 1, 3, none⟩ = some (.int .u32 ((kn : Int))) := J4.ki.cell 3
  have c0 := (J4.km.cell 0).trans mc_0
  have x0 : w4.cell? ⟨w.heap.size + 1, 2, none⟩ = some (.int .u32 x) := (J4.km.cell 2).trans mc_2
  clear b4 J3 SP
  go_wp2_with (first
    | (refine wpList_load_row rfl 35 (.tmp 5) rfl (w.heap.size + 1) rfl 35 (mcC pc a x mem) (0, 0) _ J4.km.blk Tryd.underlying35 rfl (mc_inf hl) ?_)
    | (refine wpList_store_blk rfl 35 (.tmp 15) (.tmp 41) rfl w4.heap.size _ (mcC pc a x mem) 35 rfl rfl (Blk.new_ _ _ _ rfl) (vm_z19 hl) (mc_inf hl) mc_one ?_
       intro w5 hF5 hn5
       have b5 : Below w4.heap.size w4 w5 := ((Below.refl _ w4).alloc (Nat.le_refl _) _).trans (hn5.below _ (Nat.le_refl _) (by simp))
       have J5 : RJ w w5 w4.heap.size (2, y, z, (kn : Int)) d pc a x mem zerL (mcC pc a x mem) := ⟨J4.below b5, hF5, J4.ki.lt⟩
       have c5 := (J5.j.km.cell 0).trans mc_0
       clear hn5 hF5 b5 c0 x0 i3 J4)
    | (refine wpList_store_fld rfl 3 (.tmp 45) (.tmp 44) rfl w4.heap.size 0 (mcC pc a x mem) 35 _ rfl rfl J5.kt (by rw [mc_size hl]; omega) inf_int rfl rfl ?_
       intro V hF6 hn6
       have J := J5.put hF6 hn6 (mc_s0 ((pc : Int) + 1))
       clear hF6 hn6 J5 c5
       have i0 : V.cell? ⟨w.heap.size + 1 + 1 + 1, 0, none⟩ = some (.int .u16 2) := J.j.ki.cell 0
       have i1 : V.cell? ⟨w.heap.size + 1 + 1 + 1, 1, none⟩ = some (.int .u8 y) := J.j.ki.cell 1
       have i2 : V.cell? ⟨w.heap.size + 1 + 1 + 1, 2, none⟩ = some (.int .u8 z) := J.j.ki.cell 2
       have i3 : V.cell? ⟨w.heap.size + 1 + 1 + 1, 3, none⟩ = some (.int .u32 ((kn : Int))) := J.j.ki.cell 3
       have m1 := (J.j.km.cell 1).trans mc_1
       have m2 := (J.j.km.cell 2).trans mc_2
       have t0 := (J.kt.cell 0).trans mc_0
       have hl2 : ∀ v : Int, (mem.set kn v).length = 16 := fun v => by rw [List.length_set]; exact hl)
    | (refine wpList_store_fld rfl 23 (.tmp 98) (.tmp 96) rfl w4.heap.size (3 + kn) (mcC ((pc : Int) + 1) a x mem) 35 _ rfl rfl J.kt (by rw [mc_size hl]; omega) inf_u32 rfl rfl ?_
       intro V2 hF7 hn7
       have J2 := J.put hF7 hn7 (t' := mcC ((pc : Int) + 1) a x (mem.set kn a)) (mc_s3 kn a)
       clear hF7 hn7)
    | (refine wpList_load_row rfl 35 (.tmp 15) rfl w4.heap.size rfl 35 (mcC ((pc : Int) + 1) a x (mem.set kn a)) (0, 0) _ J2.kt.blk Tryd.underlying35 rfl (mc_inf (hl2 _)) ?_)
    | (refine wpList_store_blk rfl 35 (.tmp 6) (.tmp 161) rfl (w.heap.size + 1 + 1) _ (mcC ((pc : Int) + 1) a x (mem.set kn a)) 35 rfl rfl J2.j.kz (vm_z19 (hl2 _)) (mc_inf (hl2 _)) mc_one ?_; intro w9 hw9 hn9))
  refine bodyPost_ret (v := .tuple #[.agg (mcC ((pc : Int) + 1) a x (mem.set kn a)), .int .u32 0, .bool false]) (results_row_two rfl _ _ (w.heap.size + 1 + 1) 35 (mcC ((pc : Int) + 1) a x (mem.set kn a)) (0, 0) _ rfl hw9.blk Tryd.underlying35 rfl (mc_inf (hl2 _)) _ _ rfl rfl) rfl ?_
  exact ⟨rfl, (J2.j.out hn9 hw9).old⟩

set_option maxRecDepth 100000 in
set_option maxHeartbeats 4000000 in
theorem rstep_3 (y z k : Int) (A : Option Addr) (m cap : Nat) (f : Nat → Ins) (d : Dat) (hd : DatOk d) (s : VmS) (hok : VmOk s) (w : World) (hA : Ri w w.heap.size A m f) (hcap : m ≤ cap) (hm : m ≤ 64) (hs : s.pc < m) (hf : f s.pc = (3, y, z, k)) (kn : Nat) (hkn : k = (kn : Int)) (h16 : kn < 16) :
    Calls Tryd.prog 16 #[.slice A m cap, datV d, vmV s] w fun e w' => e = .returned (.tuple #[.agg (mcC ((s.pc : Int) + 1) s.a s.x (s.mem.set kn s.x)), .int .u32 (0), .bool false]) ∧ Below w.heap.size w w' := by
  have hspc : (s.pc : Int) < m := by omega
  have ho := hA.ok s.pc hs
  rw [hf] at ho
  obtain ⟨b, off, rfl, hbl, pI, _⟩ := hA s.pc hs
  rw [hf] at pI
  simp only at pI
  have kd := ((Blk.new w (datC d) 32).alloc (.cells (vmC s) 35)).alloc (.cells zerL 35)
  have km := (Blk.new_ (w.alloc (.cells (datC d) 32)) (vmC s) 35 (n := w.heap.size + 1) (by simp)).alloc (.cells zerL 35)
  have kz := Blk.new_ ((w.alloc (.cells (datC d) 32)).alloc (.cells (vmC s) 35)) zerL 35 (n := w.heap.size + 1 + 1) (by simp)
  have B0 := (((Below.refl w.heap.size w).alloc (Nat.le_refl _) (.cells (datC d) 32)).alloc (by simp) (.cells (vmC s) 35)).alloc (by simp; omega) (.cells zerL 35)
  have c0 := (km.cell 0).trans mc_0
  obtain ⟨q0, q1, q2, q3⟩ := ri_at B0 hbl pI
  have N := fun V => refname_any 3 V (by decide)
  rw [show nameOf 3 = (⟨#[115, 116, 120]⟩, true) by kernel_rfl] at N
  have SP := fun V => split_any [115, 116, 120] (by decide) V
  rw [show headOf [115, 116, 120] = [115, 116, 120] by decide, show tailOf [115, 116, 120] = [] by decide] at SP
  subst hkn
  have h16' : (kn : Int) < 16 := by omega
  obtain ⟨pc, a, x, mem⟩ := s
  have hl : mem.length = 16 := hok.len
  have ha32 : U32 a := hok.a
  have hx32 : U32 x := hok.x
  simp only [vmC] at kd km kz B0 c0 q0 q1 q2 q3
  simp only at hspc hs hf ho
  unfold zerL at kd km kz B0 c0 q0 q1 q2 q3
  have hka : (0 : Int) ≤ pc := by omega
  unfold datV vmV
  simp only [vmC]
  go_enter Tryd.func16, Tryd.ntmps16
  go_wp2_with (refine wpList_store_blk rfl 54 (.tmp 9) (.tmp 23) rfl (w.heap.size + 1 + 1 + 1) _ (celI (3, y, z, (kn : Int))).toArray 54 rfl rfl (Blk.new_ _ _ _ (by simp)) rfl (cel_inf _) (cel_ok _) ?_
               intro w2 hF2 hn2
               have J2 : RI w w2 (3, y, z, (kn : Int)) d pc a x mem zerL := ⟨But.blk' hn2 (kd.alloc _) (by omega), But.blk' hn2 (km.alloc _) (by omega), But.blk' hn2 (kz.alloc _) (by omega), hF2, (B0.alloc B0.size _).trans (hn2.below _ (by omega) (by simp; omega))⟩
               have i0 : w2.cell? ⟨w.heap.size + 1 + 1 + 1, 0, none⟩ = some (.int .u16 3) := hF2.cell 0
               clear hF2 hn2 kd km kz B0 c0 q0 q1 q2 q3)
  refine (N _).mono ?_
  rintro e w3 ⟨rfl, b3⟩
  have J3 := J2.below b3
  clear b3 J2 i0 N
  go_wp2_with fail
  refine (SP _).mono ?_
  rintro e w4 ⟨rfl, b4⟩
  have J4 := J3.below b4
  have i3 : w4.cell? ⟨w.heap.size + 1 + 1 + 1, 3, none⟩ = some (.int .u32 ((kn : Int))) := J4.ki.cell 3
  have c0 := (J4.km.cell 0).trans mc_0
  have x0 : w4.cell? ⟨w.heap.size + 1, 2, none⟩ = some (.int .u32 x) := (J4.km.cell 2).trans mc_2
  clear b4 J3 SP
  go_wp2_with (first
    | (refine wpList_load_row rfl 35 (.tmp 5) rfl (w.heap.size + 1) rfl 35 (mcC pc a x mem) (0, 0) _ J4.km.blk Tryd.underlying35 rfl (mc_inf hl) ?_)
    | (refine wpList_store_blk rfl 35 (.tmp 15) (.tmp 41) rfl w4.heap.size _ (mcC pc a x mem) 35 rfl rfl (Blk.new_ _ _ _ rfl) (vm_z19 hl) (mc_inf hl) mc_one ?_
       intro w5 hF5 hn5
       have b5 : Below w4.heap.size w4 w5 := ((Below.refl _ w4).alloc (Nat.le_refl _) _).trans (hn5.below _ (Nat.le_refl _) (by simp))
       have J5 : RJ w w5 w4.heap.size (3, y, z, (kn : Int)) d pc a x mem zerL (mcC pc a x mem) := ⟨J4.below b5, hF5, J4.ki.lt⟩
       have c5 := (J5.j.km.cell 0).trans mc_0
       clear hn5 hF5 b5 c0 x0 i3 J4)
    | (refine wpList_store_fld rfl 3 (.tmp 45) (.tmp 44) rfl w4.heap.size 0 (mcC pc a x mem) 35 _ rfl rfl J5.kt (by rw [mc_size hl]; omega) inf_int rfl rfl ?_
       intro V hF6 hn6
       have J := J5.put hF6 hn6 (mc_s0 ((pc : Int) + 1))
       clear hF6 hn6 J5 c5
       have i0 : V.cell? ⟨w.heap.size + 1 + 1 + 1, 0, none⟩ = some (.int .u16 3) := J.j.ki.cell 0
       have i1 : V.cell? ⟨w.heap.size + 1 + 1 + 1, 1, none⟩ = some (.int .u8 y) := J.j.ki.cell 1
       have i2 : V.cell? ⟨w.heap.size + 1 + 1 + 1, 2, none⟩ = some (.int .u8 z) := J.j.ki.cell 2
       have i3 : V.cell? ⟨w.heap.size + 1 + 1 + 1, 3, none⟩ = some (.int .u32 ((kn : Int))) := J.j.ki.cell 3
       have m1 := (J.j.km.cell 1).trans mc_1
       have m2 := (J.j.km.cell 2).trans mc_2
       have t0 := (J.kt.cell 0).trans mc_0
       have hl2 : ∀ v : Int, (mem.set kn v).length = 16 := fun v => by rw [List.length_set]; exact hl)
    | (refine wpList_store_fld rfl 23 (.tmp 106) (.tmp 104) rfl w4.heap.size (3 + kn) (mcC ((pc : Int) + 1) a x mem) 35 _ rfl rfl J.kt (by rw [mc_size hl]; omega) inf_u32 rfl rfl ?_
       intro V2 hF7 hn7
       have J2 := J.put hF7 hn7 (t' := mcC ((pc : Int) + 1) a x (mem.set kn x)) (mc_s3 kn x)
       clear hF7 hn7)
    | (refine wpList_load_row rfl 35 (.tmp 15) rfl w4.heap.size rfl 35 (mcC ((pc : Int) + 1) a x (mem.set kn x)) (0, 0) _ J2.kt.blk Tryd.underlying35 rfl (mc_inf (hl2 _)) ?_)
    | (refine wpList_store_blk rfl 35 (.tmp 6) (.tmp 161) rfl (w.heap.size + 1 + 1) _ (mcC ((pc : Int) + 1) a x (mem.set kn x)) 35 rfl rfl J2.j.kz (vm_z19 (hl2 _)) (mc_inf (hl2 _)) mc_one ?_; intro w9 hw9 hn9))
  refine bodyPost_ret (v := .tuple #[.agg (mcC ((pc : Int) + 1) a x (mem.set kn x)), .int .u32 0, .bool false]) (results_row_two rfl _ _ (w.heap.size + 1 + 1) 35 (mcC ((pc : Int) + 1) a x (mem.set kn x)) (0, 0) _ rfl hw9.blk Tryd.underlying35 rfl (mc_inf (hl2 _)) _ _ rfl rfl) rfl ?_
  exact ⟨rfl, (J2.j.out hn9 hw9).old⟩

set_option maxRecDepth 100000 in
set_option maxHeartbeats 4000000 in
theorem rstep_5 (y z k : Int) (A : Option Addr) (m cap : Nat) (f : Nat → Ins) (d : Dat) (hd : DatOk d) (s : VmS) (hok : VmOk s) (w : World) (hA : Ri w w.heap.size A m f) (hcap : m ≤ cap) (hm : m ≤ 64) (hs : s.pc < m) (hf : f s.pc = (5, y, z, k)) (hk : 0 ≤ k ∧ k < 64) :
    Calls Tryd.prog 16 #[.slice A m cap, datV d, vmV s] w fun e w' => e = .returned (.tuple #[.agg (mcC ((s.pc : Int) + 1 + k) s.a s.x s.mem), .int .u32 (0), .bool false]) ∧ Below w.heap.size w w' := by
  have hspc : (s.pc : Int) < m := by omega
  have ho := hA.ok s.pc hs
  rw [hf] at ho
  obtain ⟨b, off, rfl, hbl, pI, _⟩ := hA s.pc hs
  rw [hf] at pI
  simp only at pI
  have kd := ((Blk.new w (datC d) 32).alloc (.cells (vmC s) 35)).alloc (.cells zerL 35)
  have km := (Blk.new_ (w.alloc (.cells (datC d) 32)) (vmC s) 35 (n := w.heap.size + 1) (by simp)).alloc (.cells zerL 35)
  have kz := Blk.new_ ((w.alloc (.cells (datC d) 32)).alloc (.cells (vmC s) 35)) zerL 35 (n := w.heap.size + 1 + 1) (by simp)
  have B0 := (((Below.refl w.heap.size w).alloc (Nat.le_refl _) (.cells (datC d) 32)).alloc (by simp) (.cells (vmC s) 35)).alloc (by simp; omega) (.cells zerL 35)
  have c0 := (km.cell 0).trans mc_0
  obtain ⟨q0, q1, q2, q3⟩ := ri_at B0 hbl pI
  have N := fun V => refname_any 5 V (by decide)
  rw [show nameOf 5 = (⟨#[106, 97]⟩, true) by kernel_rfl] at N
  have SP := fun V => split_any [106, 97] (by decide) V
  rw [show headOf [106, 97] = [106, 97] by decide, show tailOf [106, 97] = [] by decide] at SP
  obtain ⟨hk0, hk1⟩ := hk
  obtain ⟨pc, a, x, mem⟩ := s
  have hl : mem.length = 16 := hok.len
  have ha32 : U32 a := hok.a
  have hx32 : U32 x := hok.x
  simp only [vmC] at kd km kz B0 c0 q0 q1 q2 q3
  simp only at hspc hs hf ho
  unfold zerL at kd km kz B0 c0 q0 q1 q2 q3
  have hka : (0 : Int) ≤ pc := by omega
  unfold datV vmV
  simp only [vmC]
  go_enter Tryd.func16, Tryd.ntmps16
  go_wp2_with (refine wpList_store_blk rfl 54 (.tmp 9) (.tmp 23) rfl (w.heap.size + 1 + 1 + 1) _ (celI (5, y, z, k)).toArray 54 rfl rfl (Blk.new_ _ _ _ (by simp)) rfl (cel_inf _) (cel_ok _) ?_
               intro w2 hF2 hn2
               have J2 : RI w w2 (5, y, z, k) d pc a x mem zerL := ⟨But.blk' hn2 (kd.alloc _) (by omega), But.blk' hn2 (km.alloc _) (by omega), But.blk' hn2 (kz.alloc _) (by omega), hF2, (B0.alloc B0.size _).trans (hn2.below _ (by omega) (by simp; omega))⟩
               have i0 : w2.cell? ⟨w.heap.size + 1 + 1 + 1, 0, none⟩ = some (.int .u16 5) := hF2.cell 0
               clear hF2 hn2 kd km kz B0 c0 q0 q1 q2 q3)
  refine (N _).mono ?_
  rintro e w3 ⟨rfl, b3⟩
  have J3 := J2.below b3
  clear b3 J2 i0 N
  go_wp2_with fail
  refine (SP _).mono ?_
  rintro e w4 ⟨rfl, b4⟩
  have J4 := J3.below b4
  have i3 : w4.cell? ⟨w.heap.size + 1 + 1 + 1, 3, none⟩ = some (.int .u32 (k)) := J4.ki.cell 3
  have c0 := (J4.km.cell 0).trans mc_0
  have x0 : w4.cell? ⟨w.heap.size + 1, 2, none⟩ = some (.int .u32 x) := (J4.km.cell 2).trans mc_2
  clear b4 J3 SP
  go_wp2_with (first
    | (refine wpList_load_row rfl 35 (.tmp 5) rfl (w.heap.size + 1) rfl 35 (mcC pc a x mem) (0, 0) _ J4.km.blk Tryd.underlying35 rfl (mc_inf hl) ?_)
    | (refine wpList_store_blk rfl 35 (.tmp 15) (.tmp 41) rfl w4.heap.size _ (mcC pc a x mem) 35 rfl rfl (Blk.new_ _ _ _ rfl) (vm_z19 hl) (mc_inf hl) mc_one ?_
       intro w5 hF5 hn5
       have b5 : Below w4.heap.size w4 w5 := ((Below.refl _ w4).alloc (Nat.le_refl _) _).trans (hn5.below _ (Nat.le_refl _) (by simp))
       have J5 : RJ w w5 w4.heap.size (5, y, z, k) d pc a x mem zerL (mcC pc a x mem) := ⟨J4.below b5, hF5, J4.ki.lt⟩
       have c5 := (J5.j.km.cell 0).trans mc_0
       clear hn5 hF5 b5 c0 x0 i3 J4)
    | (refine wpList_store_fld rfl 3 (.tmp 45) (.tmp 44) rfl w4.heap.size 0 (mcC pc a x mem) 35 _ rfl rfl J5.kt (by rw [mc_size hl]; omega) inf_int rfl rfl ?_
       intro V hF6 hn6
       have J := J5.put hF6 hn6 (mc_s0 ((pc : Int) + 1))
       clear hF6 hn6 J5 c5
       have i0 : V.cell? ⟨w.heap.size + 1 + 1 + 1, 0, none⟩ = some (.int .u16 5) := J.j.ki.cell 0
       have i1 : V.cell? ⟨w.heap.size + 1 + 1 + 1, 1, none⟩ = some (.int .u8 y) := J.j.ki.cell 1
       have i2 : V.cell? ⟨w.heap.size + 1 + 1 + 1, 2, none⟩ = some (.int .u8 z) := J.j.ki.cell 2
       have i3 : V.cell? ⟨w.heap.size + 1 + 1 + 1, 3, none⟩ = some (.int .u32 (k)) := J.j.ki.cell 3
       have m1 := (J.j.km.cell 1).trans mc_1
       have m2 := (J.j.km.cell 2).trans mc_2
       have t0 := (J.kt.cell 0).trans mc_0)
    | (refine wpList_store_fld rfl 3 (.tmp 125) (.tmp 124) rfl w4.heap.size 0 (mcC ((pc : Int) + 1) a x mem) 35 _ rfl rfl J.kt (by rw [mc_size hl]; omega) inf_int rfl rfl ?_
       intro V2 hF7 hn7
       have J2 := J.put hF7 hn7 (t' := mcC ((pc : Int) + 1 + k) a x mem) (mc_s0 ((pc : Int) + 1 + k))
       clear hF7 hn7)
    | (refine wpList_load_row rfl 35 (.tmp 15) rfl w4.heap.size rfl 35 (mcC ((pc : Int) + 1 + k) a x mem) (0, 0) _ J2.kt.blk Tryd.underlying35 rfl (mc_inf hl) ?_)
    | (refine wpList_store_blk rfl 35 (.tmp 6) (.tmp 161) rfl (w.heap.size + 1 + 1) _ (mcC ((pc : Int) + 1 + k) a x mem) 35 rfl rfl J2.j.kz (vm_z19 hl) (mc_inf hl) mc_one ?_; intro w9 hw9 hn9))
  refine bodyPost_ret (v := .tuple #[.agg (mcC ((pc : Int) + 1 + k) a x mem), .int .u32 0, .bool false]) (results_row_two rfl _ _ (w.heap.size + 1 + 1) 35 (mcC ((pc : Int) + 1 + k) a x mem) (0, 0) _ rfl hw9.blk Tryd.underlying35 rfl (mc_inf hl) _ _ rfl rfl) rfl ?_
  exact ⟨rfl, (J2.j.out hn9 hw9).old⟩

set_option maxRecDepth 100000 in
set_option maxHeartbeats 4000000 in
theorem rstep_6 (y z k : Int) (A : Option Addr) (m cap : Nat) (f : Nat → Ins) (d : Dat) (hd : DatOk d) (s : VmS) (hok : VmOk s) (w : World) (hA : Ri w w.heap.size A m f) (hcap : m ≤ cap) (hm : m ≤ 64) (hs : s.pc < m) (hf : f s.pc = (6, y, z, k)) :
    Calls Tryd.prog 16 #[.slice A m cap, datV d, vmV s] w fun e w' => e = .returned (.tuple #[.agg (mcC s.pc s.a s.x s.mem), .int .u32 (k), .bool true]) ∧ Below w.heap.size w w' := by
  have hspc : (s.pc : Int) < m := by omega
  have ho := hA.ok s.pc hs
  rw [hf] at ho
  obtain ⟨b, off, rfl, hbl, pI, _⟩ := hA s.pc hs
  rw [hf] at pI
  simp only at pI
  have kd := ((Blk.new w (datC d) 32).alloc (.cells (vmC s) 35)).alloc (.cells zerL 35)
  have km := (Blk.new_ (w.alloc (.cells (datC d) 32)) (vmC s) 35 (n := w.heap.size + 1) (by simp)).alloc (.cells zerL 35)
  have kz := Blk.new_ ((w.alloc (.cells (datC d) 32)).alloc (.cells (vmC s) 35)) zerL 35 (n := w.heap.size + 1 + 1) (by simp)
  have B0 := (((Below.refl w.heap.size w).alloc (Nat.le_refl _) (.cells (datC d) 32)).alloc (by simp) (.cells (vmC s) 35)).alloc (by simp; omega) (.cells zerL 35)
  have c0 := (km.cell 0).trans mc_0
  obtain ⟨q0, q1, q2, q3⟩ := ri_at B0 hbl pI
  have N := fun V => refname_any 6 V (by decide)
  rw [show nameOf 6 = (⟨#[114, 101, 116, 46, 107]⟩, true) by kernel_rfl] at N
  have SP := fun V => split_any [114, 101, 116, 46, 107] (by decide) V
  rw [show headOf [114, 101, 116, 46, 107] = [114, 101, 116] by decide, show tailOf [114, 101, 116, 46, 107] = [107] by decide] at SP
  obtain ⟨pc, a, x, mem⟩ := s
  have hl : mem.length = 16 := hok.len
  have ha32 : U32 a := hok.a
  have hx32 : U32 x := hok.x
  simp only [vmC] at kd km kz B0 c0 q0 q1 q2 q3
  simp only at hspc hs hf ho
  unfold zerL at kd km kz B0 c0 q0 q1 q2 q3
  have hka : (0 : Int) ≤ pc := by omega
  unfold datV vmV
  simp only [vmC]
  go_enter Tryd.func16, Tryd.ntmps16
  go_wp2_with (refine wpList_store_blk rfl 54 (.tmp 9) (.tmp 23) rfl (w.heap.size + 1 + 1 + 1) _ (celI (6, y, z, k)).toArray 54 rfl rfl (Blk.new_ _ _ _ (by simp)) rfl (cel_inf _) (cel_ok _) ?_
               intro w2 hF2 hn2
               have J2 : RI w w2 (6, y, z, k) d pc a x mem zerL := ⟨But.blk' hn2 (kd.alloc _) (by omega), But.blk' hn2 (km.alloc _) (by omega), But.blk' hn2 (kz.alloc _) (by omega), hF2, (B0.alloc B0.size _).trans (hn2.below _ (by omega) (by simp; omega))⟩
               have i0 : w2.cell? ⟨w.heap.size + 1 + 1 + 1, 0, none⟩ = some (.int .u16 6) := hF2.cell 0
               clear hF2 hn2 kd km kz B0 c0 q0 q1 q2 q3)
  refine (N _).mono ?_
  rintro e w3 ⟨rfl, b3⟩
  have J3 := J2.below b3
  clear b3 J2 i0 N
  go_wp2_with fail
  refine (SP _).mono ?_
  rintro e w4 ⟨rfl, b4⟩
  have J4 := J3.below b4
  have i3 : w4.cell? ⟨w.heap.size + 1 + 1 + 1, 3, none⟩ = some (.int .u32 (k)) := J4.ki.cell 3
  have c0 := (J4.km.cell 0).trans mc_0
  have x0 : w4.cell? ⟨w.heap.size + 1, 2, none⟩ = some (.int .u32 x) := (J4.km.cell 2).trans mc_2
  clear b4 J3 SP
  go_wp2_with (first
    | (refine wpList_load_row rfl 35 (.tmp 5) rfl (w.heap.size + 1) rfl 35 (mcC pc a x mem) (0, 0) _ J4.km.blk Tryd.underlying35 rfl (mc_inf hl) ?_)
    | (refine wpList_store_blk rfl 35 (.tmp 15) (.tmp 41) rfl w4.heap.size _ (mcC pc a x mem) 35 rfl rfl (Blk.new_ _ _ _ rfl) (vm_z19 hl) (mc_inf hl) mc_one ?_
       intro w5 hF5 hn5
       have b5 : Below w4.heap.size w4 w5 := ((Below.refl _ w4).alloc (Nat.le_refl _) _).trans (hn5.below _ (Nat.le_refl _) (by simp))
       have J5 : RJ w w5 w4.heap.size (6, y, z, k) d pc a x mem zerL (mcC pc a x mem) := ⟨J4.below b5, hF5, J4.ki.lt⟩
       have c5 := (J5.j.km.cell 0).trans mc_0
       clear hn5 hF5 b5 c0 x0 i3 J4)
    | (refine wpList_store_fld rfl 3 (.tmp 45) (.tmp 44) rfl w4.heap.size 0 (mcC pc a x mem) 35 _ rfl rfl J5.kt (by rw [mc_size hl]; omega) inf_int rfl rfl ?_
       intro V hF6 hn6
       have J := J5.put hF6 hn6 (mc_s0 ((pc : Int) + 1))
       clear hF6 hn6 J5 c5
       have i0 : V.cell? ⟨w.heap.size + 1 + 1 + 1, 0, none⟩ = some (.int .u16 6) := J.j.ki.cell 0
       have i1 : V.cell? ⟨w.heap.size + 1 + 1 + 1, 1, none⟩ = some (.int .u8 y) := J.j.ki.cell 1
       have i2 : V.cell? ⟨w.heap.size + 1 + 1 + 1, 2, none⟩ = some (.int .u8 z) := J.j.ki.cell 2
       have i3 : V.cell? ⟨w.heap.size + 1 + 1 + 1, 3, none⟩ = some (.int .u32 (k)) := J.j.ki.cell 3
       have m1 := (J.j.km.cell 1).trans mc_1
       have m2 := (J.j.km.cell 2).trans mc_2
       have t0 := (J.kt.cell 0).trans mc_0))
  clear i0 i1 i2 i3 m1 m2 t0
  have JD : RJ w V.drew w4.heap.size (6, y, z, k) d pc a x mem zerL (mcC ((pc : Int) + 1) a x mem) := J.below (Below.refl _ _).drew
  have HS : RK w V.drew (6, y, z, k) d pc a x mem := ⟨JD.j.kd, JD.j.km, JD.j.ki, JD.j.old⟩
  apply region_cutF (H := fun V9 => Blk V9 (w.heap.size + 1 + 1) (mcC pc a x mem) 35 ∧ Below w.heap.size w V9)
  case h1 =>
    refine wp_region_held_drew (S := fun V => RK w V (6, y, z, k) d pc a x mem) (by kernel_rfl) HS (fun _ => ?_)
    refine wpAnyH_take (i := 0) (v := .agg (mcC pc a x mem)) rfl (by kernel_rfl) (by kernel_rfl) (by kernel_rfl) (fun _ _ _ h => nomatch h.1) (yieldsIf_blk (by rfl) 35 (.tmp 5) rfl (w.heap.size + 1) rfl (mcC pc a x mem) 35 _ (fun V hV => hV.km) Tryd.underlying35 rfl (mc_inf hl)) HS ?_
    try simp only [Act.put, List.getElem_toArray, List.getElem_cons_zero, List.getElem_cons_succ, List.setIfInBounds_toArray, List.set_cons_zero, List.set_cons_succ]
    refine wpAnyH_take (i := 1) (v := .pointer (some ⟨w.heap.size + 1 + 1 + 1, 3, none⟩)) rfl (by kernel_rfl) (by kernel_rfl) (by kernel_rfl) (fun _ _ _ h => nomatch h.1) (.inl ⟨by rfl, fun V hV => by go_simp⟩) HS ?_
    try simp only [Act.put, List.getElem_toArray, List.getElem_cons_zero, List.getElem_cons_succ, List.setIfInBounds_toArray, List.set_cons_zero, List.set_cons_succ]
    refine wpAnyH_take (i := 2) (v := .int .u32 k) rfl (by kernel_rfl) (by kernel_rfl) (by kernel_rfl) (fun _ _ _ h => nomatch h.1) (.inl ⟨by rfl, fun V hV => by have c := (show V.cell? ⟨w.heap.size + 1 + 1 + 1, 3, none⟩ = some (.int .u32 k) from hV.ki.cell 3); go_simp⟩) HS ?_
    try simp only [Act.put, List.getElem_toArray, List.getElem_cons_zero, List.getElem_cons_succ, List.setIfInBounds_toArray, List.set_cons_zero, List.set_cons_succ]
    refine wpAnyH_ready (rs := [3]) (by kernel_rfl) (by simp) ?_
    refine AllReadyH.cons rfl (fun K hK => ?_) AllReadyH.nil
    try simp only [List.getElem_toArray, List.getElem_cons_zero, List.getElem_cons_succ, List.setIfInBounds_toArray, List.set_cons_zero, List.set_cons_succ]
    rw [if_pos (by rfl)]
    refine wp_store_blk 35 (.tmp 6) (.tmp 158) rfl (w.heap.size + 1 + 1) _ (mcC pc a x mem) 35 rfl rfl JD.j.kz (vm_z19 hl) (mc_inf hl) mc_one ?_
    intro V9 hw9 hn9
    have J9 := JD.j.out hn9 hw9
    refine hK.out _ _ ⟨J9.kd, J9.km, J9.ki, J9.old⟩ (fun HS9 => ?_)
    clear hK K
    try simp only [Act.put]
    refine wpAnyH_take (i := 4) (v := .int .u32 k) rfl (by kernel_rfl) (by kernel_rfl) (by kernel_rfl) (fun _ _ _ h => nomatch h.1) (.inl ⟨by rfl, fun V hV => by go_simp⟩) HS9 ?_
    try simp only [Act.put, List.getElem_toArray, List.getElem_cons_zero, List.getElem_cons_succ, List.setIfInBounds_toArray, List.set_cons_zero, List.set_cons_succ]
    refine wpAnyH_take (i := 5) (v := .bool true) rfl (by kernel_rfl) (by kernel_rfl) (by kernel_rfl) (fun _ _ _ h => nomatch h.1) (.inl ⟨by rfl, fun V hV => by go_simp⟩) HS9 ?_
    try simp only [Act.put, List.getElem_toArray, List.getElem_cons_zero, List.getElem_cons_succ, List.setIfInBounds_toArray, List.set_cons_zero, List.set_cons_succ]
    refine wpAnyH_done (by kernel_rfl) ?_ _
    exact ⟨rfl, rfl, hw9, J9.old⟩
  rintro V9 ⟨hw9, old9⟩
  clear HS JD J
  rename_i K0 hK0
  refine hK0 _ _ ?_
  clear hK0 K0
  go_wp2_with fail
  refine bodyPost_ret (v := .tuple #[.agg (mcC pc a x mem), .int .u32 k, .bool true]) (results_row_two rfl _ _ (w.heap.size + 1 + 1) 35 (mcC pc a x mem) (0, 0) _ rfl hw9.blk Tryd.underlying35 rfl (mc_inf hl) _ _ rfl rfl) rfl ?_
  exact ⟨rfl, old9⟩

set_option maxRecDepth 100000 in
set_option maxHeartbeats 4000000 in
theorem rstep_7 (y z k : Int) (A : Option Addr) (m cap : Nat) (f : Nat → Ins) (d : Dat) (hd : DatOk d) (s : VmS) (hok : VmOk s) (w : World) (hA : Ri w w.heap.size A m f) (hcap : m ≤ cap) (hm : m ≤ 64) (hs : s.pc < m) (hf : f s.pc = (7, y, z, k)) :
    Calls Tryd.prog 16 #[.slice A m cap, datV d, vmV s] w fun e w' => e = .returned (.tuple #[.agg (mcC ((s.pc : Int) + 1) s.a s.a s.mem), .int .u32 (0), .bool false]) ∧ Below w.heap.size w w' := by
  have hspc : (s.pc : Int) < m := by omega
  have ho := hA.ok s.pc hs
  rw [hf] at ho
  obtain ⟨b, off, rfl, hbl, pI, _⟩ := hA s.pc hs
  rw [hf] at pI
  simp only at pI
  have kd := ((Blk.new w (datC d) 32).alloc (.cells (vmC s) 35)).alloc (.cells zerL 35)
  have km := (Blk.new_ (w.alloc (.cells (datC d) 32)) (vmC s) 35 (n := w.heap.size + 1) (by simp)).alloc (.cells zerL 35)
  have kz := Blk.new_ ((w.alloc (.cells (datC d) 32)).alloc (.cells (vmC s) 35)) zerL 35 (n := w.heap.size + 1 + 1) (by simp)
  have B0 := (((Below.refl w.heap.size w).alloc (Nat.le_refl _) (.cells (datC d) 32)).alloc (by simp) (.cells (vmC s) 35)).alloc (by simp; omega) (.cells zerL 35)
  have c0 := (km.cell 0).trans mc_0
  obtain ⟨q0, q1, q2, q3⟩ := ri_at B0 hbl pI
  have N := fun V => refname_any 7 V (by decide)
  rw [show nameOf 7 = (⟨#[116, 97, 120]⟩, true) by kernel_rfl] at N
  have SP := fun V => split_any [116, 97, 120] (by decide) V
  rw [show headOf [116, 97, 120] = [116, 97, 120] by decide, show tailOf [116, 97, 120] = [] by decide] at SP
  obtain ⟨pc, a, x, mem⟩ := s
  have hl : mem.length = 16 := hok.len
  have ha32 : U32 a := hok.a
  have hx32 : U32 x := hok.x
  simp only [vmC] at kd km kz B0 c0 q0 q1 q2 q3
  simp only at hspc hs hf ho
  unfold zerL at kd km kz B0 c0 q0 q1 q2 q3
  have hka : (0 : Int) ≤ pc := by omega
  unfold datV vmV
  simp only [vmC]
  go_enter Tryd.func16, Tryd.ntmps16
  go_wp2_with (refine wpList_store_blk rfl 54 (.tmp 9) (.tmp 23) rfl (w.heap.size + 1 + 1 + 1) _ (celI (7, y, z, k)).toArray 54 rfl rfl (Blk.new_ _ _ _ (by simp)) rfl (cel_inf _) (cel_ok _) ?_
               intro w2 hF2 hn2
               have J2 : RI w w2 (7, y, z, k) d pc a x mem zerL := ⟨But.blk' hn2 (kd.alloc _) (by omega), But.blk' hn2 (km.alloc _) (by omega), But.blk' hn2 (kz.alloc _) (by omega), hF2, (B0.alloc B0.size _).trans (hn2.below _ (by omega) (by simp; omega))⟩
               have i0 : w2.cell? ⟨w.heap.size + 1 + 1 + 1, 0, none⟩ = some (.int .u16 7) := hF2.cell 0
               clear hF2 hn2 kd km kz B0 c0 q0 q1 q2 q3)
  refine (N _).mono ?_
  rintro e w3 ⟨rfl, b3⟩
  have J3 := J2.below b3
  clear b3 J2 i0 N
  go_wp2_with fail
  refine (SP _).mono ?_
  rintro e w4 ⟨rfl, b4⟩
  have J4 := J3.below b4
  have i3 : w4.cell? ⟨w.heap.size + 1 + 1 + 1, 3, none⟩ = some (.int .u32 (k)) := J4.ki.cell 3
  have c0 := (J4.km.cell 0).trans mc_0
  have x0 : w4.cell? ⟨w.heap.size + 1, 2, none⟩ = some (.int .u32 x) := (J4.km.cell 2).trans mc_2
  clear b4 J3 SP
  go_wp2_with (first
    | (refine wpList_load_row rfl 35 (.tmp 5) rfl (w.heap.size + 1) rfl 35 (mcC pc a x mem) (0, 0) _ J4.km.blk Tryd.underlying35 rfl (mc_inf hl) ?_)
    | (refine wpList_store_blk rfl 35 (.tmp 15) (.tmp 41) rfl w4.heap.size _ (mcC pc a x mem) 35 rfl rfl (Blk.new_ _ _ _ rfl) (vm_z19 hl) (mc_inf hl) mc_one ?_
       intro w5 hF5 hn5
       have b5 : Below w4.heap.size w4 w5 := ((Below.refl _ w4).alloc (Nat.le_refl _) _).trans (hn5.below _ (Nat.le_refl _) (by simp))
       have J5 : RJ w w5 w4.heap.size (7, y, z, k) d pc a x mem zerL (mcC pc a x mem) := ⟨J4.below b5, hF5, J4.ki.lt⟩
       have c5 := (J5.j.km.cell 0).trans mc_0
       clear hn5 hF5 b5 c0 x0 i3 J4)
    | (refine wpList_store_fld rfl 3 (.tmp 45) (.tmp 44) rfl w4.heap.size 0 (mcC pc a x mem) 35 _ rfl rfl J5.kt (by rw [mc_size hl]; omega) inf_int rfl rfl ?_
       intro V hF6 hn6
       have J := J5.put hF6 hn6 (mc_s0 ((pc : Int) + 1))
       clear hF6 hn6 J5 c5
       have i0 : V.cell? ⟨w.heap.size + 1 + 1 + 1, 0, none⟩ = some (.int .u16 7) := J.j.ki.cell 0
       have i1 : V.cell? ⟨w.heap.size + 1 + 1 + 1, 1, none⟩ = some (.int .u8 y) := J.j.ki.cell 1
       have i2 : V.cell? ⟨w.heap.size + 1 + 1 + 1, 2, none⟩ = some (.int .u8 z) := J.j.ki.cell 2
       have i3 : V.cell? ⟨w.heap.size + 1 + 1 + 1, 3, none⟩ = some (.int .u32 (k)) := J.j.ki.cell 3
       have m1 := (J.j.km.cell 1).trans mc_1
       have m2 := (J.j.km.cell 2).trans mc_2
       have t0 := (J.kt.cell 0).trans mc_0)
    | (refine wpList_store_fld rfl 23 (.tmp 111) (.tmp 110) rfl w4.heap.size 2 (mcC ((pc : Int) + 1) a x mem) 35 _ rfl rfl J.kt (by rw [mc_size hl]; omega) inf_u32 rfl rfl ?_
       intro V2 hF7 hn7
       have J2 := J.put hF7 hn7 (t' := mcC ((pc : Int) + 1) a a mem) (mc_s2 a)
       clear hF7 hn7)
    | (refine wpList_load_row rfl 35 (.tmp 15) rfl w4.heap.size rfl 35 (mcC ((pc : Int) + 1) a a mem) (0, 0) _ J2.kt.blk Tryd.underlying35 rfl (mc_inf hl) ?_)
    | (refine wpList_store_blk rfl 35 (.tmp 6) (.tmp 161) rfl (w.heap.size + 1 + 1) _ (mcC ((pc : Int) + 1) a a mem) 35 rfl rfl J2.j.kz (vm_z19 hl) (mc_inf hl) mc_one ?_; intro w9 hw9 hn9))
  refine bodyPost_ret (v := .tuple #[.agg (mcC ((pc : Int) + 1) a a mem), .int .u32 0, .bool false]) (results_row_two rfl _ _ (w.heap.size + 1 + 1) 35 (mcC ((pc : Int) + 1) a a mem) (0, 0) _ rfl hw9.blk Tryd.underlying35 rfl (mc_inf hl) _ _ rfl rfl) rfl ?_
  exact ⟨rfl, (J2.j.out hn9 hw9).old⟩

set_option maxRecDepth 100000 in
set_option maxHeartbeats 4000000 in
theorem rstep_21 (y z k : Int) (A : Option Addr) (m cap : Nat) (f : Nat → Ins) (d : Dat) (hd : DatOk d) (s : VmS) (hok : VmOk s) (w : World) (hA : Ri w w.heap.size A m f) (hcap : m ≤ cap) (hm : m ≤ 64) (hs : s.pc < m) (hf : f s.pc = (21, y, z, k)) (hy : 0 ≤ y ∧ y < 64) (hz : 0 ≤ z ∧ z < 64) :
    Calls Tryd.prog 16 #[.slice A m cap, datV d, vmV s] w fun e w' => e = .returned (.tuple #[.agg (mcC ((s.pc : Int) + 1 + (if hdI 21 s.a k = true then y else z)) s.a s.x s.mem), .int .u32 (0), .bool false]) ∧ Below w.heap.size w w' := by
  have hspc : (s.pc : Int) < m := by omega
  have ho := hA.ok s.pc hs
  rw [hf] at ho
  obtain ⟨b, off, rfl, hbl, pI, _⟩ := hA s.pc hs
  rw [hf] at pI
  simp only at pI
  have kd := ((Blk.new w (datC d) 32).alloc (.cells (vmC s) 35)).alloc (.cells zerL 35)
  have km := (Blk.new_ (w.alloc (.cells (datC d) 32)) (vmC s) 35 (n := w.heap.size + 1) (by simp)).alloc (.cells zerL 35)
  have kz := Blk.new_ ((w.alloc (.cells (datC d) 32)).alloc (.cells (vmC s) 35)) zerL 35 (n := w.heap.size + 1 + 1) (by simp)
  have B0 := (((Below.refl w.heap.size w).alloc (Nat.le_refl _) (.cells (datC d) 32)).alloc (by simp) (.cells (vmC s) 35)).alloc (by simp; omega) (.cells zerL 35)
  have c0 := (km.cell 0).trans mc_0
  obtain ⟨q0, q1, q2, q3⟩ := ri_at B0 hbl pI
  have N := fun V => refname_any 21 V (by decide)
  rw [show nameOf 21 = (⟨#[106, 101, 113, 46, 107]⟩, true) by kernel_rfl] at N
  have SP := fun V => split_any [106, 101, 113, 46, 107] (by decide) V
  rw [show headOf [106, 101, 113, 46, 107] = [106, 101, 113] by decide, show tailOf [106, 101, 113, 46, 107] = [107] by decide] at SP
  obtain ⟨hy0, hy1⟩ := hy
  obtain ⟨hz0, hz1⟩ := hz
  have HD := fun V => refhd_any 21 s.a k (by decide) (by decide) hok.a ⟨ho.k0, ho.k1⟩ V
  obtain ⟨o, hho⟩ : ∃ o, hdI 21 s.a k = o := ⟨_, rfl⟩
  rw [hho] at HD ⊢
  clear hho
  obtain ⟨pc, a, x, mem⟩ := s
  have hl : mem.length = 16 := hok.len
  have ha32 : U32 a := hok.a
  have hx32 : U32 x := hok.x
  simp only [vmC] at kd km kz B0 c0 q0 q1 q2 q3
  simp only at hspc hs hf ho
  simp only at HD
  unfold zerL at kd km kz B0 c0 q0 q1 q2 q3
  have hka : (0 : Int) ≤ pc := by omega
  unfold datV vmV
  simp only [vmC]
  go_enter Tryd.func16, Tryd.ntmps16
  go_wp2_with (refine wpList_store_blk rfl 54 (.tmp 9) (.tmp 23) rfl (w.heap.size + 1 + 1 + 1) _ (celI (21, y, z, k)).toArray 54 rfl rfl (Blk.new_ _ _ _ (by simp)) rfl (cel_inf _) (cel_ok _) ?_
               intro w2 hF2 hn2
               have J2 : RI w w2 (21, y, z, k) d pc a x mem zerL := ⟨But.blk' hn2 (kd.alloc _) (by omega), But.blk' hn2 (km.alloc _) (by omega), But.blk' hn2 (kz.alloc _) (by omega), hF2, (B0.alloc B0.size _).trans (hn2.below _ (by omega) (by simp; omega))⟩
               have i0 : w2.cell? ⟨w.heap.size + 1 + 1 + 1, 0, none⟩ = some (.int .u16 21) := hF2.cell 0
               clear hF2 hn2 kd km kz B0 c0 q0 q1 q2 q3)
  refine (N _).mono ?_
  rintro e w3 ⟨rfl, b3⟩
  have J3 := J2.below b3
  clear b3 J2 i0 N
  go_wp2_with fail
  refine (SP _).mono ?_
  rintro e w4 ⟨rfl, b4⟩
  have J4 := J3.below b4
  have i3 : w4.cell? ⟨w.heap.size + 1 + 1 + 1, 3, none⟩ = some (.int .u32 (k)) := J4.ki.cell 3
  have c0 := (J4.km.cell 0).trans mc_0
  have x0 : w4.cell? ⟨w.heap.size + 1, 2, none⟩ = some (.int .u32 x) := (J4.km.cell 2).trans mc_2
  clear b4 J3 SP
  go_wp2_with (first
    | (refine wpList_load_row rfl 35 (.tmp 5) rfl (w.heap.size + 1) rfl 35 (mcC pc a x mem) (0, 0) _ J4.km.blk Tryd.underlying35 rfl (mc_inf hl) ?_)
    | (refine wpList_store_blk rfl 35 (.tmp 15) (.tmp 41) rfl w4.heap.size _ (mcC pc a x mem) 35 rfl rfl (Blk.new_ _ _ _ rfl) (vm_z19 hl) (mc_inf hl) mc_one ?_
       intro w5 hF5 hn5
       have b5 : Below w4.heap.size w4 w5 := ((Below.refl _ w4).alloc (Nat.le_refl _) _).trans (hn5.below _ (Nat.le_refl _) (by simp))
       have J5 : RJ w w5 w4.heap.size (21, y, z, k) d pc a x mem zerL (mcC pc a x mem) := ⟨J4.below b5, hF5, J4.ki.lt⟩
       have c5 := (J5.j.km.cell 0).trans mc_0
       clear hn5 hF5 b5 c0 x0 i3 J4)
    | (refine wpList_store_fld rfl 3 (.tmp 45) (.tmp 44) rfl w4.heap.size 0 (mcC pc a x mem) 35 _ rfl rfl J5.kt (by rw [mc_size hl]; omega) inf_int rfl rfl ?_
       intro V hF6 hn6
       have J := J5.put hF6 hn6 (mc_s0 ((pc : Int) + 1))
       clear hF6 hn6 J5 c5
       have i0 : V.cell? ⟨w.heap.size + 1 + 1 + 1, 0, none⟩ = some (.int .u16 21) := J.j.ki.cell 0
       have i1 : V.cell? ⟨w.heap.size + 1 + 1 + 1, 1, none⟩ = some (.int .u8 y) := J.j.ki.cell 1
       have i2 : V.cell? ⟨w.heap.size + 1 + 1 + 1, 2, none⟩ = some (.int .u8 z) := J.j.ki.cell 2
       have i3 : V.cell? ⟨w.heap.size + 1 + 1 + 1, 3, none⟩ = some (.int .u32 (k)) := J.j.ki.cell 3
       have m1 := (J.j.km.cell 1).trans mc_1
       have m2 := (J.j.km.cell 2).trans mc_2
       have t0 := (J.kt.cell 0).trans mc_0))
  refine (HD _).mono ?_
  rintro e w6 ⟨rfl, hw6⟩
  subst w6
  clear HD
  cases o
  · simp only [Bool.false_eq_true, if_false, if_true]
    go_wp2_with (first
      | (refine wpList_store_fld rfl 3 (.tmp 150) (.tmp 149) rfl w4.heap.size 0 (mcC ((pc : Int) + 1) a x mem) 35 _ rfl rfl J.kt (by rw [mc_size hl]; omega) inf_int rfl rfl ?_
         intro V2 hF7 hn7
         have J2 := J.put hF7 hn7 (t' := mcC ((pc : Int) + 1 + z) a x mem) (mc_s0 ((pc : Int) + 1 + z))
         clear hF7 hn7)
      | (refine wpList_load_row rfl 35 (.tmp 15) rfl w4.heap.size rfl 35 (mcC ((pc : Int) + 1 + z) a x mem) (0, 0) _ J2.kt.blk Tryd.underlying35 rfl (mc_inf hl) ?_)
      | (refine wpList_store_blk rfl 35 (.tmp 6) (.tmp 161) rfl (w.heap.size + 1 + 1) _ (mcC ((pc : Int) + 1 + z) a x mem) 35 rfl rfl J2.j.kz (vm_z19 hl) (mc_inf hl) mc_one ?_; intro w9 hw9 hn9))
    refine bodyPost_ret (v := .tuple #[.agg (mcC ((pc : Int) + 1 + z) a x mem), .int .u32 0, .bool false]) (results_row_two rfl _ _ (w.heap.size + 1 + 1) 35 (mcC ((pc : Int) + 1 + z) a x mem) (0, 0) _ rfl hw9.blk Tryd.underlying35 rfl (mc_inf hl) _ _ rfl rfl) rfl ?_
    exact ⟨rfl, (J2.j.out hn9 hw9).old⟩
  · simp only [Bool.false_eq_true, if_false, if_true]
    go_wp2_with (first
      | (refine wpList_store_fld rfl 3 (.tmp 143) (.tmp 142) rfl w4.heap.size 0 (mcC ((pc : Int) + 1) a x mem) 35 _ rfl rfl J.kt (by rw [mc_size hl]; omega) inf_int rfl rfl ?_
         intro V2 hF7 hn7
         have J2 := J.put hF7 hn7 (t' := mcC ((pc : Int) + 1 + y) a x mem) (mc_s0 ((pc : Int) + 1 + y))
         clear hF7 hn7)
      | (refine wpList_load_row rfl 35 (.tmp 15) rfl w4.heap.size rfl 35 (mcC ((pc : Int) + 1 + y) a x mem) (0, 0) _ J2.kt.blk Tryd.underlying35 rfl (mc_inf hl) ?_)
      | (refine wpList_store_blk rfl 35 (.tmp 6) (.tmp 161) rfl (w.heap.size + 1 + 1) _ (mcC ((pc : Int) + 1 + y) a x mem) 35 rfl rfl J2.j.kz (vm_z19 hl) (mc_inf hl) mc_one ?_; intro w9 hw9 hn9))
    refine bodyPost_ret (v := .tuple #[.agg (mcC ((pc : Int) + 1 + y) a x mem), .int .u32 0, .bool false]) (results_row_two rfl _ _ (w.heap.size + 1 + 1) 35 (mcC ((pc : Int) + 1 + y) a x mem) (0, 0) _ rfl hw9.blk Tryd.underlying35 rfl (mc_inf hl) _ _ rfl rfl) rfl ?_
    exact ⟨rfl, (J2.j.out hn9 hw9).old⟩

set_option maxRecDepth 100000 in
set_option maxHeartbeats 4000000 in
theorem rstep_22 (y z k : Int) (A : Option Addr) (m cap : Nat) (f : Nat → Ins) (d : Dat) (hd : DatOk d) (s : VmS) (hok : VmOk s) (w : World) (hA : Ri w w.heap.size A m f) (hcap : m ≤ cap) (hm : m ≤ 64) (hs : s.pc < m) (hf : f s.pc = (22, y, z, k)) :
    Calls Tryd.prog 16 #[.slice A m cap, datV d, vmV s] w fun e w' => e = .returned (.tuple #[.agg (mcC s.pc s.a s.x s.mem), .int .u32 (s.a), .bool true]) ∧ Below w.heap.size w w' := by
  have hspc : (s.pc : Int) < m := by omega
  have ho := hA.ok s.pc hs
  rw [hf] at ho
  obtain ⟨b, off, rfl, hbl, pI, _⟩ := hA s.pc hs
  rw [hf] at pI
  simp only at pI
  have kd := ((Blk.new w (datC d) 32).alloc (.cells (vmC s) 35)).alloc (.cells zerL 35)
  have km := (Blk.new_ (w.alloc (.cells (datC d) 32)) (vmC s) 35 (n := w.heap.size + 1) (by simp)).alloc (.cells zerL 35)
  have kz := Blk.new_ ((w.alloc (.cells (datC d) 32)).alloc (.cells (vmC s) 35)) zerL 35 (n := w.heap.size + 1 + 1) (by simp)
  have B0 := (((Below.refl w.heap.size w).alloc (Nat.le_refl _) (.cells (datC d) 32)).alloc (by simp) (.cells (vmC s) 35)).alloc (by simp; omega) (.cells zerL 35)
  have c0 := (km.cell 0).trans mc_0
  obtain ⟨q0, q1, q2, q3⟩ := ri_at B0 hbl pI
  have N := fun V => refname_any 22 V (by decide)
  rw [show nameOf 22 = (⟨#[114, 101, 116, 46, 97]⟩, true) by kernel_rfl] at N
  have SP := fun V => split_any [114, 101, 116, 46, 97] (by decide) V
  rw [show headOf [114, 101, 116, 46, 97] = [114, 101, 116] by decide, show tailOf [114, 101, 116, 46, 97] = [97] by decide] at SP
  obtain ⟨pc, a, x, mem⟩ := s
  have hl : mem.length = 16 := hok.len
  have ha32 : U32 a := hok.a
  have hx32 : U32 x := hok.x
  simp only [vmC] at kd km kz B0 c0 q0 q1 q2 q3
  simp only at hspc hs hf ho
  unfold zerL at kd km kz B0 c0 q0 q1 q2 q3
  have hka : (0 : Int) ≤ pc := by omega
  unfold datV vmV
  simp only [vmC]
  go_enter Tryd.func16, Tryd.ntmps16
  go_wp2_with (refine wpList_store_blk rfl 54 (.tmp 9) (.tmp 23) rfl (w.heap.size + 1 + 1 + 1) _ (celI (22, y, z, k)).toArray 54 rfl rfl (Blk.new_ _ _ _ (by simp)) rfl (cel_inf _) (cel_ok _) ?_
               intro w2 hF2 hn2
               have J2 : RI w w2 (22, y, z, k) d pc a x mem zerL := ⟨But.blk' hn2 (kd.alloc _) (by omega), But.blk' hn2 (km.alloc _) (by omega), But.blk' hn2 (kz.alloc _) (by omega), hF2, (B0.alloc B0.size _).trans (hn2.below _ (by omega) (by simp; omega))⟩
               have i0 : w2.cell? ⟨w.heap.size + 1 + 1 + 1, 0, none⟩ = some (.int .u16 22) := hF2.cell 0
               clear hF2 hn2 kd km kz B0 c0 q0 q1 q2 q3)
  refine (N _).mono ?_
  rintro e w3 ⟨rfl, b3⟩
  have J3 := J2.below b3
  clear b3 J2 i0 N
  go_wp2_with fail
  refine (SP _).mono ?_
  rintro e w4 ⟨rfl, b4⟩
  have J4 := J3.below b4
  have i3 : w4.cell? ⟨w.heap.size + 1 + 1 + 1, 3, none⟩ = some (.int .u32 (k)) := J4.ki.cell 3
  have c0 := (J4.km.cell 0).trans mc_0
  have x0 : w4.cell? ⟨w.heap.size + 1, 2, none⟩ = some (.int .u32 x) := (J4.km.cell 2).trans mc_2
  clear b4 J3 SP
  go_wp2_with (first
    | (refine wpList_load_row rfl 35 (.tmp 5) rfl (w.heap.size + 1) rfl 35 (mcC pc a x mem) (0, 0) _ J4.km.blk Tryd.underlying35 rfl (mc_inf hl) ?_)
    | (refine wpList_store_blk rfl 35 (.tmp 15) (.tmp 41) rfl w4.heap.size _ (mcC pc a x mem) 35 rfl rfl (Blk.new_ _ _ _ rfl) (vm_z19 hl) (mc_inf hl) mc_one ?_
       intro w5 hF5 hn5
       have b5 : Below w4.heap.size w4 w5 := ((Below.refl _ w4).alloc (Nat.le_refl _) _).trans (hn5.below _ (Nat.le_refl _) (by simp))
       have J5 : RJ w w5 w4.heap.size (22, y, z, k) d pc a x mem zerL (mcC pc a x mem) := ⟨J4.below b5, hF5, J4.ki.lt⟩
       have c5 := (J5.j.km.cell 0).trans mc_0
       clear hn5 hF5 b5 c0 x0 i3 J4)
    | (refine wpList_store_fld rfl 3 (.tmp 45) (.tmp 44) rfl w4.heap.size 0 (mcC pc a x mem) 35 _ rfl rfl J5.kt (by rw [mc_size hl]; omega) inf_int rfl rfl ?_
       intro V hF6 hn6
       have J := J5.put hF6 hn6 (mc_s0 ((pc : Int) + 1))
       clear hF6 hn6 J5 c5
       have i0 : V.cell? ⟨w.heap.size + 1 + 1 + 1, 0, none⟩ = some (.int .u16 22) := J.j.ki.cell 0
       have i1 : V.cell? ⟨w.heap.size + 1 + 1 + 1, 1, none⟩ = some (.int .u8 y) := J.j.ki.cell 1
       have i2 : V.cell? ⟨w.heap.size + 1 + 1 + 1, 2, none⟩ = some (.int .u8 z) := J.j.ki.cell 2
       have i3 : V.cell? ⟨w.heap.size + 1 + 1 + 1, 3, none⟩ = some (.int .u32 (k)) := J.j.ki.cell 3
       have m1 := (J.j.km.cell 1).trans mc_1
       have m2 := (J.j.km.cell 2).trans mc_2
       have t0 := (J.kt.cell 0).trans mc_0))
  clear i0 i1 i2 i3 m1 m2 t0
  have JD : RJ w V.drew w4.heap.size (22, y, z, k) d pc a x mem zerL (mcC ((pc : Int) + 1) a x mem) := J.below (Below.refl _ _).drew
  have HS : RK w V.drew (22, y, z, k) d pc a x mem := ⟨JD.j.kd, JD.j.km, JD.j.ki, JD.j.old⟩
  apply region_cutF (H := fun V9 => Blk V9 (w.heap.size + 1 + 1) (mcC pc a x mem) 35 ∧ Below w.heap.size w V9)
  case h1 =>
    refine wp_region_held_drew (S := fun V => RK w V (22, y, z, k) d pc a x mem) (by kernel_rfl) HS (fun _ => ?_)
    refine wpAnyH_take (i := 0) (v := .agg (mcC pc a x mem)) rfl (by kernel_rfl) (by kernel_rfl) (by kernel_rfl) (fun _ _ _ h => nomatch h.1) (yieldsIf_blk (by rfl) 35 (.tmp 5) rfl (w.heap.size + 1) rfl (mcC pc a x mem) 35 _ (fun V hV => hV.km) Tryd.underlying35 rfl (mc_inf hl)) HS ?_
    try simp only [Act.put, List.getElem_toArray, List.getElem_cons_zero, List.getElem_cons_succ, List.setIfInBounds_toArray, List.set_cons_zero, List.set_cons_succ]
    refine wpAnyH_take (i := 1) (v := .pointer (some ⟨w.heap.size + 1, 1, none⟩)) rfl (by kernel_rfl) (by kernel_rfl) (by kernel_rfl) (fun _ _ _ h => nomatch h.1) (.inl ⟨by rfl, fun V hV => by go_simp⟩) HS ?_
    try simp only [Act.put, List.getElem_toArray, List.getElem_cons_zero, List.getElem_cons_succ, List.setIfInBounds_toArray, List.set_cons_zero, List.set_cons_succ]
    refine wpAnyH_take (i := 2) (v := .int .u32 a) rfl (by kernel_rfl) (by kernel_rfl) (by kernel_rfl) (fun _ _ _ h => nomatch h.1) (.inl ⟨by rfl, fun V hV => by have c := (hV.km.cell 1).trans mc_1; go_simp⟩) HS ?_
    try simp only [Act.put, List.getElem_toArray, List.getElem_cons_zero, List.getElem_cons_succ, List.setIfInBounds_toArray, List.set_cons_zero, List.set_cons_succ]
    refine wpAnyH_ready (rs := [3]) (by kernel_rfl) (by simp) ?_
    refine AllReadyH.cons rfl (fun K hK => ?_) AllReadyH.nil
    try simp only [List.getElem_toArray, List.getElem_cons_zero, List.getElem_cons_succ, List.setIfInBounds_toArray, List.set_cons_zero, List.set_cons_succ]
    rw [if_pos (by rfl)]
    refine wp_store_blk 35 (.tmp 6) (.tmp 155) rfl (w.heap.size + 1 + 1) _ (mcC pc a x mem) 35 rfl rfl JD.j.kz (vm_z19 hl) (mc_inf hl) mc_one ?_
    intro V9 hw9 hn9
    have J9 := JD.j.out hn9 hw9
    refine hK.out _ _ ⟨J9.kd, J9.km, J9.ki, J9.old⟩ (fun HS9 => ?_)
    clear hK K
    try simp only [Act.put]
    refine wpAnyH_take (i := 4) (v := .int .u32 a) rfl (by kernel_rfl) (by kernel_rfl) (by kernel_rfl) (fun _ _ _ h => nomatch h.1) (.inl ⟨by rfl, fun V hV => by go_simp⟩) HS9 ?_
    try simp only [Act.put, List.getElem_toArray, List.getElem_cons_zero, List.getElem_cons_succ, List.setIfInBounds_toArray, List.set_cons_zero, List.set_cons_succ]
    refine wpAnyH_take (i := 5) (v := .bool true) rfl (by kernel_rfl) (by kernel_rfl) (by kernel_rfl) (fun _ _ _ h => nomatch h.1) (.inl ⟨by rfl, fun V hV => by go_simp⟩) HS9 ?_
    try simp only [Act.put, List.getElem_toArray, List.getElem_cons_zero, List.getElem_cons_succ, List.setIfInBounds_toArray, List.set_cons_zero, List.set_cons_succ]
    refine wpAnyH_done (by kernel_rfl) ?_ _
    exact ⟨rfl, rfl, hw9, J9.old⟩
  rintro V9 ⟨hw9, old9⟩
  clear HS JD J
  rename_i K0 hK0
  refine hK0 _ _ ?_
  clear hK0 K0
  go_wp2_with fail
  refine bodyPost_ret (v := .tuple #[.agg (mcC pc a x mem), .int .u32 a, .bool true]) (results_row_two rfl _ _ (w.heap.size + 1 + 1) 35 (mcC pc a x mem) (0, 0) _ rfl hw9.blk Tryd.underlying35 rfl (mc_inf hl) _ _ rfl rfl) rfl ?_
  exact ⟨rfl, old9⟩

set_option maxRecDepth 100000 in
set_option maxHeartbeats 4000000 in
theorem rstep_29 (y z k : Int) (A : Option Addr) (m cap : Nat) (f : Nat → Ins) (d : Dat) (hd : DatOk d) (s : VmS) (hok : VmOk s) (w : World) (hA : Ri w w.heap.size A m f) (hcap : m ≤ cap) (hm : m ≤ 64) (hs : s.pc < m) (hf : f s.pc = (29, y, z, k)) (hy : 0 ≤ y ∧ y < 64) (hz : 0 ≤ z ∧ z < 64) :
    Calls Tryd.prog 16 #[.slice A m cap, datV d, vmV s] w fun e w' => e = .returned (.tuple #[.agg (mcC ((s.pc : Int) + 1 + (if hdI 29 s.a s.x = true then y else z)) s.a s.x s.mem), .int .u32 (0), .bool false]) ∧ Below w.heap.size w w' := by
  have hspc : (s.pc : Int) < m := by omega
  have ho := hA.ok s.pc hs
  rw [hf] at ho
  obtain ⟨b, off, rfl, hbl, pI, _⟩ := hA s.pc hs
  rw [hf] at pI
  simp only at pI
  have kd := ((Blk.new w (datC d) 32).alloc (.cells (vmC s) 35)).alloc (.cells zerL 35)
  have km := (Blk.new_ (w.alloc (.cells (datC d) 32)) (vmC s) 35 (n := w.heap.size + 1) (by simp)).alloc (.cells zerL 35)
  have kz := Blk.new_ ((w.alloc (.cells (datC d) 32)).alloc (.cells (vmC s) 35)) zerL 35 (n := w.heap.size + 1 + 1) (by simp)
  have B0 := (((Below.refl w.heap.size w).alloc (Nat.le_refl _) (.cells (datC d) 32)).alloc (by simp) (.cells (vmC s) 35)).alloc (by simp; omega) (.cells zerL 35)
  have c0 := (km.cell 0).trans mc_0
  obtain ⟨q0, q1, q2, q3⟩ := ri_at B0 hbl pI
  have N := fun V => refname_any 29 V (by decide)
  rw [show nameOf 29 = (⟨#[106, 101, 113, 46, 120]⟩, true) by kernel_rfl] at N
  have SP := fun V => split_any [106, 101, 113, 46, 120] (by decide) V
  rw [show headOf [106, 101, 113, 46, 120] = [106, 101, 113] by decide, show tailOf [106, 101, 113, 46, 120] = [120] by decide] at SP
  obtain ⟨hy0, hy1⟩ := hy
  obtain ⟨hz0, hz1⟩ := hz
  have HD := fun V => refhd_any 29 s.a s.x (by decide) (by decide) hok.a hok.x V
  obtain ⟨o, hho⟩ : ∃ o, hdI 29 s.a s.x = o := ⟨_, rfl⟩
  rw [hho] at HD ⊢
  clear hho
  obtain ⟨pc, a, x, mem⟩ := s
  have hl : mem.length = 16 := hok.len
  have ha32 : U32 a := hok.a
  have hx32 : U32 x := hok.x
  simp only [vmC] at kd km kz B0 c0 q0 q1 q2 q3
  simp only at hspc hs hf ho
  simp only at HD
  unfold zerL at kd km kz B0 c0 q0 q1 q2 q3
  have hka : (0 : Int) ≤ pc := by omega
  unfold datV vmV
  simp only [vmC]
  go_enter Tryd.func16, Tryd.ntmps16
  go_wp2_with (refine wpList_store_blk rfl 54 (.tmp 9) (.tmp 23) rfl (w.heap.size + 1 + 1 + 1) _ (celI (29, y, z, k)).toArray 54 rfl rfl (Blk.new_ _ _ _ (by simp)) rfl (cel_inf _) (cel_ok _) ?_
               intro w2 hF2 hn2
               have J2 : RI w w2 (29, y, z, k) d pc a x mem zerL := ⟨But.blk' hn2 (kd.alloc _) (by omega), But.blk' hn2 (km.alloc _) (by omega), But.blk' hn2 (kz.alloc _) (by omega), hF2, (B0.alloc B0.size _).trans (hn2.below _ (by omega) (by simp; omega))⟩
               have i0 : w2.cell? ⟨w.heap.size + 1 + 1 + 1, 0, none⟩ = some (.int .u16 29) := hF2.cell 0
               clear hF2 hn2 kd km kz B0 c0 q0 q1 q2 q3)
  refine (N _).mono ?_
  rintro e w3 ⟨rfl, b3⟩
  have J3 := J2.below b3
  clear b3 J2 i0 N
  go_wp2_with fail
  refine (SP _).mono ?_
  rintro e w4 ⟨rfl, b4⟩
  have J4 := J3.below b4
  have i3 : w4.cell? ⟨w.heap.size + 1 + 1 + 1, 3, none⟩ = some (.int .u32 (k)) := J4.ki.cell 3
  have c0 := (J4.km.cell 0).trans mc_0
  have x0 : w4.cell? ⟨w.heap.size + 1, 2, none⟩ = some (.int .u32 x) := (J4.km.cell 2).trans mc_2
  clear b4 J3 SP
  go_wp2_with (first
    | (refine wpList_load_row rfl 35 (.tmp 5) rfl (w.heap.size + 1) rfl 35 (mcC pc a x mem) (0, 0) _ J4.km.blk Tryd.underlying35 rfl (mc_inf hl) ?_)
    | (refine wpList_store_blk rfl 35 (.tmp 15) (.tmp 41) rfl w4.heap.size _ (mcC pc a x mem) 35 rfl rfl (Blk.new_ _ _ _ rfl) (vm_z19 hl) (mc_inf hl) mc_one ?_
       intro w5 hF5 hn5
       have b5 : Below w4.heap.size w4 w5 := ((Below.refl _ w4).alloc (Nat.le_refl _) _).trans (hn5.below _ (Nat.le_refl _) (by simp))
       have J5 : RJ w w5 w4.heap.size (29, y, z, k) d pc a x mem zerL (mcC pc a x mem) := ⟨J4.below b5, hF5, J4.ki.lt⟩
       have c5 := (J5.j.km.cell 0).trans mc_0
       clear hn5 hF5 b5 c0 x0 i3 J4)
    | (refine wpList_store_fld rfl 3 (.tmp 45) (.tmp 44) rfl w4.heap.size 0 (mcC pc a x mem) 35 _ rfl rfl J5.kt (by rw [mc_size hl]; omega) inf_int rfl rfl ?_
       intro V hF6 hn6
       have J := J5.put hF6 hn6 (mc_s0 ((pc : Int) + 1))
       clear hF6 hn6 J5 c5
       have i0 : V.cell? ⟨w.heap.size + 1 + 1 + 1, 0, none⟩ = some (.int .u16 29) := J.j.ki.cell 0
       have i1 : V.cell? ⟨w.heap.size + 1 + 1 + 1, 1, none⟩ = some (.int .u8 y) := J.j.ki.cell 1
       have i2 : V.cell? ⟨w.heap.size + 1 + 1 + 1, 2, none⟩ = some (.int .u8 z) := J.j.ki.cell 2
       have i3 : V.cell? ⟨w.heap.size + 1 + 1 + 1, 3, none⟩ = some (.int .u32 (k)) := J.j.ki.cell 3
       have m1 := (J.j.km.cell 1).trans mc_1
       have m2 := (J.j.km.cell 2).trans mc_2
       have t0 := (J.kt.cell 0).trans mc_0))
  refine (HD _).mono ?_
  rintro e w6 ⟨rfl, hw6⟩
  subst w6
  clear HD
  cases o
  · simp only [Bool.false_eq_true, if_false, if_true]
    go_wp2_with (first
      | (refine wpList_store_fld rfl 3 (.tmp 150) (.tmp 149) rfl w4.heap.size 0 (mcC ((pc : Int) + 1) a x mem) 35 _ rfl rfl J.kt (by rw [mc_size hl]; omega) inf_int rfl rfl ?_
         intro V2 hF7 hn7
         have J2 := J.put hF7 hn7 (t' := mcC ((pc : Int) + 1 + z) a x mem) (mc_s0 ((pc : Int) + 1 + z))
         clear hF7 hn7)
      | (refine wpList_load_row rfl 35 (.tmp 15) rfl w4.heap.size rfl 35 (mcC ((pc : Int) + 1 + z) a x mem) (0, 0) _ J2.kt.blk Tryd.underlying35 rfl (mc_inf hl) ?_)
      | (refine wpList_store_blk rfl 35 (.tmp 6) (.tmp 161) rfl (w.heap.size + 1 + 1) _ (mcC ((pc : Int) + 1 + z) a x mem) 35 rfl rfl J2.j.kz (vm_z19 hl) (mc_inf hl) mc_one ?_; intro w9 hw9 hn9))
    refine bodyPost_ret (v := .tuple #[.agg (mcC ((pc : Int) + 1 + z) a x mem), .int .u32 0, .bool false]) (results_row_two rfl _ _ (w.heap.size + 1 + 1) 35 (mcC ((pc : Int) + 1 + z) a x mem) (0, 0) _ rfl hw9.blk Tryd.underlying35 rfl (mc_inf hl) _ _ rfl rfl) rfl ?_
    exact ⟨rfl, (J2.j.out hn9 hw9).old⟩
  · simp only [Bool.false_eq_true, if_false, if_true]
    go_wp2_with (first
      | (refine wpList_store_fld rfl 3 (.tmp 143) (.tmp 142) rfl w4.heap.size 0 (mcC ((pc : Int) + 1) a x mem) 35 _ rfl rfl J.kt (by rw [mc_size hl]; omega) inf_int rfl rfl ?_
         intro V2 hF7 hn7
         have J2 := J.put hF7 hn7 (t' := mcC ((pc : Int) + 1 + y) a x mem) (mc_s0 ((pc : Int) + 1 + y))
         clear hF7 hn7)
      | (refine wpList_load_row rfl 35 (.tmp 15) rfl w4.heap.size rfl 35 (mcC ((pc : Int) + 1 + y) a x mem) (0, 0) _ J2.kt.blk Tryd.underlying35 rfl (mc_inf hl) ?_)
      | (refine wpList_store_blk rfl 35 (.tmp 6) (.tmp 161) rfl (w.heap.size + 1 + 1) _ (mcC ((pc : Int) + 1 + y) a x mem) 35 rfl rfl J2.j.kz (vm_z19 hl) (mc_inf hl) mc_one ?_; intro w9 hw9 hn9))
    refine bodyPost_ret (v := .tuple #[.agg (mcC ((pc : Int) + 1 + y) a x mem), .int .u32 0, .bool false]) (results_row_two rfl _ _ (w.heap.size + 1 + 1) 35 (mcC ((pc : Int) + 1 + y) a x mem) (0, 0) _ rfl hw9.blk Tryd.underlying35 rfl (mc_inf hl) _ _ rfl rfl) rfl ?_
    exact ⟨rfl, (J2.j.out hn9 hw9).old⟩

set_option maxRecDepth 100000 in
set_option maxHeartbeats 4000000 in
theorem rstep_32 (y z k : Int) (A : Option Addr) (m cap : Nat) (f : Nat → Ins) (d : Dat) (hd : DatOk d) (s : VmS) (hok : VmOk s) (w : World) (hA : Ri w w.heap.size A m f) (hcap : m ≤ cap) (hm : m ≤ 64) (hs : s.pc < m) (hf : f s.pc = (32, y, z, k)) (kn : Nat) (hkn : k = 4 * (kn : Int)) (h16 : kn < 16) :
    Calls Tryd.prog 16 #[.slice A m cap, datV d, vmV s] w fun e w' => e = .returned (.tuple #[.agg (mcC ((s.pc : Int) + 1) ((wordsL d).getD kn 0) s.x s.mem), .int .u32 (0), .bool false]) ∧ Below w.heap.size w w' := by
  have hspc : (s.pc : Int) < m := by omega
  have ho := hA.ok s.pc hs
  rw [hf] at ho
  obtain ⟨b, off, rfl, hbl, pI, _⟩ := hA s.pc hs
  rw [hf] at pI
  simp only at pI
  have kd := ((Blk.new w (datC d) 32).alloc (.cells (vmC s) 35)).alloc (.cells zerL 35)
  have km := (Blk.new_ (w.alloc (.cells (datC d) 32)) (vmC s) 35 (n := w.heap.size + 1) (by simp)).alloc (.cells zerL 35)
  have kz := Blk.new_ ((w.alloc (.cells (datC d) 32)).alloc (.cells (vmC s) 35)) zerL 35 (n := w.heap.size + 1 + 1) (by simp)
  have B0 := (((Below.refl w.heap.size w).alloc (Nat.le_refl _) (.cells (datC d) 32)).alloc (by simp) (.cells (vmC s) 35)).alloc (by simp; omega) (.cells zerL 35)
  have c0 := (km.cell 0).trans mc_0
  obtain ⟨q0, q1, q2, q3⟩ := ri_at B0 hbl pI
  have N := fun V => refname_any 32 V (by decide)
  rw [show nameOf 32 = (⟨#[108, 100, 46, 97, 98, 115]⟩, true) by kernel_rfl] at N
  have SP := fun V => split_any [108, 100, 46, 97, 98, 115] (by decide) V
  rw [show headOf [108, 100, 46, 97, 98, 115] = [108, 100] by decide, show tailOf [108, 100, 46, 97, 98, 115] = [97, 98, 115] by decide] at SP
  subst hkn
  have W := fun V => rword_ok d hd kn h16 V
  unfold datV at W
  generalize (wordsL d).getD kn 0 = u at W ⊢
  obtain ⟨pc, a, x, mem⟩ := s
  have hl : mem.length = 16 := hok.len
  have ha32 : U32 a := hok.a
  have hx32 : U32 x := hok.x
  simp only [vmC] at kd km kz B0 c0 q0 q1 q2 q3
  simp only at hspc hs hf ho
  unfold zerL at kd km kz B0 c0 q0 q1 q2 q3
  have hka : (0 : Int) ≤ pc := by omega
  unfold datV vmV
  simp only [vmC]
  go_enter Tryd.func16, Tryd.ntmps16
  go_wp2_with (refine wpList_store_blk rfl 54 (.tmp 9) (.tmp 23) rfl (w.heap.size + 1 + 1 + 1) _ (celI (32, y, z, 4 * (kn : Int))).toArray 54 rfl rfl (Blk.new_ _ _ _ (by simp)) rfl (cel_inf _) (cel_ok _) ?_
               intro w2 hF2 hn2
               have J2 : RI w w2 (32, y, z, 4 * (kn : Int)) d pc a x mem zerL := ⟨But.blk' hn2 (kd.alloc _) (by omega), But.blk' hn2 (km.alloc _) (by omega), But.blk' hn2 (kz.alloc _) (by omega), hF2, (B0.alloc B0.size _).trans (hn2.below _ (by omega) (by simp; omega))⟩
               have i0 : w2.cell? ⟨w.heap.size + 1 + 1 + 1, 0, none⟩ = some (.int .u16 32) := hF2.cell 0
               clear hF2 hn2 kd km kz B0 c0 q0 q1 q2 q3)
  refine (N _).mono ?_
  rintro e w3 ⟨rfl, b3⟩
  have J3 := J2.below b3
  clear b3 J2 i0 N
  go_wp2_with fail
  refine (SP _).mono ?_
  rintro e w4 ⟨rfl, b4⟩
  have J4 := J3.below b4
  have i3 : w4.cell? ⟨w.heap.size + 1 + 1 + 1, 3, none⟩ = some (.int .u32 (4 * (kn : Int))) := J4.ki.cell 3
  have c0 := (J4.km.cell 0).trans mc_0
  have x0 : w4.cell? ⟨w.heap.size + 1, 2, none⟩ = some (.int .u32 x) := (J4.km.cell 2).trans mc_2
  clear b4 J3 SP
  go_wp2_with (first
    | (refine wpList_load_row rfl 35 (.tmp 5) rfl (w.heap.size + 1) rfl 35 (mcC pc a x mem) (0, 0) _ J4.km.blk Tryd.underlying35 rfl (mc_inf hl) ?_)
    | (refine wpList_store_blk rfl 35 (.tmp 15) (.tmp 41) rfl w4.heap.size _ (mcC pc a x mem) 35 rfl rfl (Blk.new_ _ _ _ rfl) (vm_z19 hl) (mc_inf hl) mc_one ?_
       intro w5 hF5 hn5
       have b5 : Below w4.heap.size w4 w5 := ((Below.refl _ w4).alloc (Nat.le_refl _) _).trans (hn5.below _ (Nat.le_refl _) (by simp))
       have J5 : RJ w w5 w4.heap.size (32, y, z, 4 * (kn : Int)) d pc a x mem zerL (mcC pc a x mem) := ⟨J4.below b5, hF5, J4.ki.lt⟩
       have c5 := (J5.j.km.cell 0).trans mc_0
       clear hn5 hF5 b5 c0 x0 i3 J4)
    | (refine wpList_store_fld rfl 3 (.tmp 45) (.tmp 44) rfl w4.heap.size 0 (mcC pc a x mem) 35 _ rfl rfl J5.kt (by rw [mc_size hl]; omega) inf_int rfl rfl ?_
       intro V hF6 hn6
       have J := J5.put hF6 hn6 (mc_s0 ((pc : Int) + 1))
       clear hF6 hn6 J5 c5
       have i0 : V.cell? ⟨w.heap.size + 1 + 1 + 1, 0, none⟩ = some (.int .u16 32) := J.j.ki.cell 0
       have i1 : V.cell? ⟨w.heap.size + 1 + 1 + 1, 1, none⟩ = some (.int .u8 y) := J.j.ki.cell 1
       have i2 : V.cell? ⟨w.heap.size + 1 + 1 + 1, 2, none⟩ = some (.int .u8 z) := J.j.ki.cell 2
       have i3 : V.cell? ⟨w.heap.size + 1 + 1 + 1, 3, none⟩ = some (.int .u32 (4 * (kn : Int))) := J.j.ki.cell 3
       have m1 := (J.j.km.cell 1).trans mc_1
       have m2 := (J.j.km.cell 2).trans mc_2
       have t0 := (J.kt.cell 0).trans mc_0)
    | (refine wpList_load_row rfl 32 (.tmp 4) rfl w.heap.size rfl 32 (datC d) (0, 0) _ J.j.kd.blk Tryd.underlying32 rfl dat_info ?_))
  refine (W _).mono ?_
  rintro e w6 ⟨rfl, b6⟩
  have J6 := J.below b6
  clear J b6 W i0 i1 i2 i3 m1 m2 t0
  go_wp2_with (first
    | (refine wpList_store_fld rfl 23 (.tmp 86) (.tmp 85) rfl w4.heap.size 1 (mcC ((pc : Int) + 1) a x mem) 35 _ rfl rfl J6.kt (by rw [mc_size hl]; omega) inf_u32 rfl rfl ?_
       intro V2 hF7 hn7
       have J2 := J6.put hF7 hn7 (t' := mcC ((pc : Int) + 1) u x mem) (mc_s1 u)
       clear hF7 hn7)
    | (refine wpList_load_row rfl 35 (.tmp 15) rfl w4.heap.size rfl 35 (mcC ((pc : Int) + 1) u x mem) (0, 0) _ J2.kt.blk Tryd.underlying35 rfl (mc_inf hl) ?_)
    | (refine wpList_store_blk rfl 35 (.tmp 6) (.tmp 161) rfl (w.heap.size + 1 + 1) _ (mcC ((pc : Int) + 1) u x mem) 35 rfl rfl J2.j.kz (vm_z19 hl) (mc_inf hl) mc_one ?_; intro w9 hw9 hn9))
  refine bodyPost_ret (v := .tuple #[.agg (mcC ((pc : Int) + 1) u x mem), .int .u32 0, .bool false]) (results_row_two rfl _ _ (w.heap.size + 1 + 1) 35 (mcC ((pc : Int) + 1) u x mem) (0, 0) _ rfl hw9.blk Tryd.underlying35 rfl (mc_inf hl) _ _ rfl rfl) rfl ?_
  exact ⟨rfl, (J2.j.out hn9 hw9).old⟩

set_option maxRecDepth 100000 in
set_option maxHeartbeats 4000000 in
theorem rstep_37 (y z k : Int) (A : Option Addr) (m cap : Nat) (f : Nat → Ins) (d : Dat) (hd : DatOk d) (s : VmS) (hok : VmOk s) (w : World) (hA : Ri w w.heap.size A m f) (hcap : m ≤ cap) (hm : m ≤ 64) (hs : s.pc < m) (hf : f s.pc = (37, y, z, k)) (hy : 0 ≤ y ∧ y < 64) (hz : 0 ≤ z ∧ z < 64) :
    Calls Tryd.prog 16 #[.slice A m cap, datV d, vmV s] w fun e w' => e = .returned (.tuple #[.agg (mcC ((s.pc : Int) + 1 + (if hdI 37 s.a k = true then y else z)) s.a s.x s.mem), .int .u32 (0), .bool false]) ∧ Below w.heap.size w w' := by
  have hspc : (s.pc : Int) < m := by omega
  have ho := hA.ok s.pc hs
  rw [hf] at ho
  obtain ⟨b, off, rfl, hbl, pI, _⟩ := hA s.pc hs
  rw [hf] at pI
  simp only at pI
  have kd := ((Blk.new w (datC d) 32).alloc (.cells (vmC s) 35)).alloc (.cells zerL 35)
  have km := (Blk.new_ (w.alloc (.cells (datC d) 32)) (vmC s) 35 (n := w.heap.size + 1) (by simp)).alloc (.cells zerL 35)
  have kz := Blk.new_ ((w.alloc (.cells (datC d) 32)).alloc (.cells (vmC s) 35)) zerL 35 (n := w.heap.size + 1 + 1) (by simp)
  have B0 := (((Below.refl w.heap.size w).alloc (Nat.le_refl _) (.cells (datC d) 32)).alloc (by simp) (.cells (vmC s) 35)).alloc (by simp; omega) (.cells zerL 35)
  have c0 := (km.cell 0).trans mc_0
  obtain ⟨q0, q1, q2, q3⟩ := ri_at B0 hbl pI
  have N := fun V => refname_any 37 V (by decide)
  rw [show nameOf 37 = (⟨#[106, 103, 116, 46, 107]⟩, true) by kernel_rfl] at N
  have SP := fun V => split_any [106, 103, 116, 46, 107] (by decide) V
  rw [show headOf [106, 103, 116, 46, 107] = [106, 103, 116] by decide, show tailOf [106, 103, 116, 46, 107] = [107] by decide] at SP
  obtain ⟨hy0, hy1⟩ := hy
  obtain ⟨hz0, hz1⟩ := hz
  have HD := fun V => refhd_any 37 s.a k (by decide) (by decide) hok.a ⟨ho.k0, ho.k1⟩ V
  obtain ⟨o, hho⟩ : ∃ o, hdI 37 s.a k = o := ⟨_, rfl⟩
  rw [hho] at HD ⊢
  clear hho
  obtain ⟨pc, a, x, mem⟩ := s
  have hl : mem.length = 16 := hok.len
  have ha32 : U32 a := hok.a
  have hx32 : U32 x := hok.x
  simp only [vmC] at kd km kz B0 c0 q0 q1 q2 q3
  simp only at hspc hs hf ho
  simp only at HD
  unfold zerL at kd km kz B0 c0 q0 q1 q2 q3
  have hka : (0 : Int) ≤ pc := by omega
  unfold datV vmV
  simp only [vmC]
  go_enter Tryd.func16, Tryd.ntmps16
  go_wp2_with (refine wpList_store_blk rfl 54 (.tmp 9) (.tmp 23) rfl (w.heap.size + 1 + 1 + 1) _ (celI (37, y, z, k)).toArray 54 rfl rfl (Blk.new_ _ _ _ (by simp)) rfl (cel_inf _) (cel_ok _) ?_
               intro w2 hF2 hn2
               have J2 : RI w w2 (37, y, z, k) d pc a x mem zerL := ⟨But.blk' hn2 (kd.alloc _) (by omega), But.blk' hn2 (km.alloc _) (by omega), But.blk' hn2 (kz.alloc _) (by omega), hF2, (B0.alloc B0.size _).trans (hn2.below _ (by omega) (by simp; omega))⟩
               have i0 : w2.cell? ⟨w.heap.size + 1 + 1 + 1, 0, none⟩ = some (.int .u16 37) := hF2.cell 0
               clear hF2 hn2 kd km kz B0 c0 q0 q1 q2 q3)
  refine (N _).mono ?_
  rintro e w3 ⟨rfl, b3⟩
  have J3 := J2.below b3
  clear b3 J2 i0 N
  go_wp2_with fail
  refine (SP _).mono ?_
  rintro e w4 ⟨rfl, b4⟩
  have J4 := J3.below b4
  have i3 : w4.cell? ⟨w.heap.size + 1 + 1 + 1, 3, none⟩ = some (.int .u32 (k)) := J4.ki.cell 3
  have c0 := (J4.km.cell 0).trans mc_0
  have x0 : w4.cell? ⟨w.heap.size + 1, 2, none⟩ = some (.int .u32 x) := (J4.km.cell 2).trans mc_2
  clear b4 J3 SP
  go_wp2_with (first
    | (refine wpList_load_row rfl 35 (.tmp 5) rfl (w.heap.size + 1) rfl 35 (mcC pc a x mem) (0, 0) _ J4.km.blk Tryd.underlying35 rfl (mc_inf hl) ?_)
    | (refine wpList_store_blk rfl 35 (.tmp 15) (.tmp 41) rfl w4.heap.size _ (mcC pc a x mem) 35 rfl rfl (Blk.new_ _ _ _ rfl) (vm_z19 hl) (mc_inf hl) mc_one ?_
       intro w5 hF5 hn5
       have b5 : Below w4.heap.size w4 w5 := ((Below.refl _ w4).alloc (Nat.le_refl _) _).trans (hn5.below _ (Nat.le_refl _) (by simp))
       have J5 : RJ w w5 w4.heap.size (37, y, z, k) d pc a x mem zerL (mcC pc a x mem) := ⟨J4.below b5, hF5, J4.ki.lt⟩
       have c5 := (J5.j.km.cell 0).trans mc_0
       clear hn5 hF5 b5 c0 x0 i3 J4)
    | (refine wpList_store_fld rfl 3 (.tmp 45) (.tmp 44) rfl w4.heap.size 0 (mcC pc a x mem) 35 _ rfl rfl J5.kt (by rw [mc_size hl]; omega) inf_int rfl rfl ?_
       intro V hF6 hn6
       have J := J5.put hF6 hn6 (mc_s0 ((pc : Int) + 1))
       clear hF6 hn6 J5 c5
       have i0 : V.cell? ⟨w.heap.size + 1 + 1 + 1, 0, none⟩ = some (.int .u16 37) := J.j.ki.cell 0
       have i1 : V.cell? ⟨w.heap.size + 1 + 1 + 1, 1, none⟩ = some (.int .u8 y) := J.j.ki.cell 1
       have i2 : V.cell? ⟨w.heap.size + 1 + 1 + 1, 2, none⟩ = some (.int .u8 z) := J.j.ki.cell 2
       have i3 : V.cell? ⟨w.heap.size + 1 + 1 + 1, 3, none⟩ = some (.int .u32 (k)) := J.j.ki.cell 3
       have m1 := (J.j.km.cell 1).trans mc_1
       have m2 := (J.j.km.cell 2).trans mc_2
       have t0 := (J.kt.cell 0).trans mc_0))
  refine (HD _).mono ?_
  rintro e w6 ⟨rfl, hw6⟩
  subst w6
  clear HD
  cases o
  · simp only [Bool.false_eq_true, if_false, if_true]
    go_wp2_with (first
      | (refine wpList_store_fld rfl 3 (.tmp 150) (.tmp 149) rfl w4.heap.size 0 (mcC ((pc : Int) + 1) a x mem) 35 _ rfl rfl J.kt (by rw [mc_size hl]; omega) inf_int rfl rfl ?_
         intro V2 hF7 hn7
         have J2 := J.put hF7 hn7 (t' := mcC ((pc : Int) + 1 + z) a x mem) (mc_s0 ((pc : Int) + 1 + z))
         clear hF7 hn7)
      | (refine wpList_load_row rfl 35 (.tmp 15) rfl w4.heap.size rfl 35 (mcC ((pc : Int) + 1 + z) a x mem) (0, 0) _ J2.kt.blk Tryd.underlying35 rfl (mc_inf hl) ?_)
      | (refine wpList_store_blk rfl 35 (.tmp 6) (.tmp 161) rfl (w.heap.size + 1 + 1) _ (mcC ((pc : Int) + 1 + z) a x mem) 35 rfl rfl J2.j.kz (vm_z19 hl) (mc_inf hl) mc_one ?_; intro w9 hw9 hn9))
    refine bodyPost_ret (v := .tuple #[.agg (mcC ((pc : Int) + 1 + z) a x mem), .int .u32 0, .bool false]) (results_row_two rfl _ _ (w.heap.size + 1 + 1) 35 (mcC ((pc : Int) + 1 + z) a x mem) (0, 0) _ rfl hw9.blk Tryd.underlying35 rfl (mc_inf hl) _ _ rfl rfl) rfl ?_
    exact ⟨rfl, (J2.j.out hn9 hw9).old⟩
  · simp only [Bool.false_eq_true, if_false, if_true]
    go_wp2_with (first
      | (refine wpList_store_fld rfl 3 (.tmp 143) (.tmp 142) rfl w4.heap.size 0 (mcC ((pc : Int) + 1) a x mem) 35 _ rfl rfl J.kt (by rw [mc_size hl]; omega) inf_int rfl rfl ?_
         intro V2 hF7 hn7
         have J2 := J.put hF7 hn7 (t' := mcC ((pc : Int) + 1 + y) a x mem) (mc_s0 ((pc : Int) + 1 + y))
         clear hF7 hn7)
      | (refine wpList_load_row rfl 35 (.tmp 15) rfl w4.heap.size rfl 35 (mcC ((pc : Int) + 1 + y) a x mem) (0, 0) _ J2.kt.blk Tryd.underlying35 rfl (mc_inf hl) ?_)
      | (refine wpList_store_blk rfl 35 (.tmp 6) (.tmp 161) rfl (w.heap.size + 1 + 1) _ (mcC ((pc : Int) + 1 + y) a x mem) 35 rfl rfl J2.j.kz (vm_z19 hl) (mc_inf hl) mc_one ?_; intro w9 hw9 hn9))
    refine bodyPost_ret (v := .tuple #[.agg (mcC ((pc : Int) + 1 + y) a x mem), .int .u32 0, .bool false]) (results_row_two rfl _ _ (w.heap.size + 1 + 1) 35 (mcC ((pc : Int) + 1 + y) a x mem) (0, 0) _ rfl hw9.blk Tryd.underlying35 rfl (mc_inf hl) _ _ rfl rfl) rfl ?_
    exact ⟨rfl, (J2.j.out hn9 hw9).old⟩

set_option maxRecDepth 100000 in
set_option maxHeartbeats 4000000 in
theorem rstep_45 (y z k : Int) (A : Option Addr) (m cap : Nat) (f : Nat → Ins) (d : Dat) (hd : DatOk d) (s : VmS) (hok : VmOk s) (w : World) (hA : Ri w w.heap.size A m f) (hcap : m ≤ cap) (hm : m ≤ 64) (hs : s.pc < m) (hf : f s.pc = (45, y, z, k)) (hy : 0 ≤ y ∧ y < 64) (hz : 0 ≤ z ∧ z < 64) :
    Calls Tryd.prog 16 #[.slice A m cap, datV d, vmV s] w fun e w' => e = .returned (.tuple #[.agg (mcC ((s.pc : Int) + 1 + (if hdI 45 s.a s.x = true then y else z)) s.a s.x s.mem), .int .u32 (0), .bool false]) ∧ Below w.heap.size w w' := by
  have hspc : (s.pc : Int) < m := by omega
  have ho := hA.ok s.pc hs
  rw [hf] at ho
  obtain ⟨b, off, rfl, hbl, pI, _⟩ := hA s.pc hs
  rw [hf] at pI
  simp only at pI
  have kd := ((Blk.new w (datC d) 32).alloc (.cells (vmC s) 35)).alloc (.cells zerL 35)
  have km := (Blk.new_ (w.alloc (.cells (datC d) 32)) (vmC s) 35 (n := w.heap.size + 1) (by simp)).alloc (.cells zerL 35)
  have kz := Blk.new_ ((w.alloc (.cells (datC d) 32)).alloc (.cells (vmC s) 35)) zerL 35 (n := w.heap.size + 1 + 1) (by simp)
  have B0 := (((Below.refl w.heap.size w).alloc (Nat.le_refl _) (.cells (datC d) 32)).alloc (by simp) (.cells (vmC s) 35)).alloc (by simp; omega) (.cells zerL 35)
  have c0 := (km.cell 0).trans mc_0
  obtain ⟨q0, q1, q2, q3⟩ := ri_at B0 hbl pI
  have N := fun V => refname_any 45 V (by decide)
  rw [show nameOf 45 = (⟨#[106, 103, 116, 46, 120]⟩, true) by kernel_rfl] at N
  have SP := fun V => split_any [106, 103, 116, 46, 120] (by decide) V
  rw [show headOf [106, 103, 116, 46, 120] = [106, 103, 116] by decide, show tailOf [106, 103, 116, 46, 120] = [120] by decide] at SP
  obtain ⟨hy0, hy1⟩ := hy
  obtain ⟨hz0, hz1⟩ := hz
  have HD := fun V => refhd_any 45 s.a s.x (by decide) (by decide) hok.a hok.x V
  obtain ⟨o, hho⟩ : ∃ o, hdI 45 s.a s.x = o := ⟨_, rfl⟩
  rw [hho] at HD ⊢
  clear hho
  obtain ⟨pc, a, x, mem⟩ := s
  have hl : mem.length = 16 := hok.len
  have ha32 : U32 a := hok.a
  have hx32 : U32 x := hok.x
  simp only [vmC] at kd km kz B0 c0 q0 q1 q2 q3
  simp only at hspc hs hf ho
  simp only at HD
  unfold zerL at kd km kz B0 c0 q0 q1 q2 q3
  have hka : (0 : Int) ≤ pc := by omega
  unfold datV vmV
  simp only [vmC]
  go_enter Tryd.func16, Tryd.ntmps16
  go_wp2_with (refine wpList_store_blk rfl 54 (.tmp 9) (.tmp 23) rfl (w.heap.size + 1 + 1 + 1) _ (celI (45, y, z, k)).toArray 54 rfl rfl (Blk.new_ _ _ _ (by simp)) rfl (cel_inf _) (cel_ok _) ?_
               intro w2 hF2 hn2
               have J2 : RI w w2 (45, y, z, k) d pc a x mem zerL := ⟨But.blk' hn2 (kd.alloc _) (by omega), But.blk' hn2 (km.alloc _) (by omega), But.blk' hn2 (kz.alloc _) (by omega), hF2, (B0.alloc B0.size _).trans (hn2.below _ (by omega) (by simp; omega))⟩
               have i0 : w2.cell? ⟨w.heap.size + 1 + 1 + 1, 0, none⟩ = some (.int .u16 45) := hF2.cell 0
               clear hF2 hn2 kd km kz B0 c0 q0 q1 q2 q3)
  refine (N _).mono ?_
  rintro e w3 ⟨rfl, b3⟩
  have J3 := J2.below b3
  clear b3 J2 i0 N
  go_wp2_with fail
  refine (SP _).mono ?_
  rintro e w4 ⟨rfl, b4⟩
  have J4 := J3.below b4
  have i3 : w4.cell? ⟨w.heap.size + 1 + 1 + 1, 3, none⟩ = some (.int .u32 (k)) := J4.ki.cell 3
  have c0 := (J4.km.cell 0).trans mc_0
  have x0 : w4.cell? ⟨w.heap.size + 1, 2, none⟩ = some (.int .u32 x) := (J4.km.cell 2).trans mc_2
  clear b4 J3 SP
  go_wp2_with (first
    | (refine wpList_load_row rfl 35 (.tmp 5) rfl (w.heap.size + 1) rfl 35 (mcC pc a x mem) (0, 0) _ J4.km.blk Tryd.underlying35 rfl (mc_inf hl) ?_)
    | (refine wpList_store_blk rfl 35 (.tmp 15) (.tmp 41) rfl w4.heap.size _ (mcC pc a x mem) 35 rfl rfl (Blk.new_ _ _ _ rfl) (vm_z19 hl) (mc_inf hl) mc_one ?_
       intro w5 hF5 hn5
       have b5 : Below w4.heap.size w4 w5 := ((Below.refl _ w4).alloc (Nat.le_refl _) _).trans (hn5.below _ (Nat.le_refl _) (by simp))
       have J5 : RJ w w5 w4.heap.size (45, y, z, k) d pc a x mem zerL (mcC pc a x mem) := ⟨J4.below b5, hF5, J4.ki.lt⟩
       have c5 := (J5.j.km.cell 0).trans mc_0
       clear hn5 hF5 b5 c0 x0 i3 J4)
    | (refine wpList_store_fld rfl 3 (.tmp 45) (.tmp 44) rfl w4.heap.size 0 (mcC pc a x mem) 35 _ rfl rfl J5.kt (by rw [mc_size hl]; omega) inf_int rfl rfl ?_
       intro V hF6 hn6
       have J := J5.put hF6 hn6 (mc_s0 ((pc : Int) + 1))
       clear hF6 hn6 J5 c5
       have i0 : V.cell? ⟨w.heap.size + 1 + 1 + 1, 0, none⟩ = some (.int .u16 45) := J.j.ki.cell 0
       have i1 : V.cell? ⟨w.heap.size + 1 + 1 + 1, 1, none⟩ = some (.int .u8 y) := J.j.ki.cell 1
       have i2 : V.cell? ⟨w.heap.size + 1 + 1 + 1, 2, none⟩ = some (.int .u8 z) := J.j.ki.cell 2
       have i3 : V.cell? ⟨w.heap.size + 1 + 1 + 1, 3, none⟩ = some (.int .u32 (k)) := J.j.ki.cell 3
       have m1 := (J.j.km.cell 1).trans mc_1
       have m2 := (J.j.km.cell 2).trans mc_2
       have t0 := (J.kt.cell 0).trans mc_0))
  refine (HD _).mono ?_
  rintro e w6 ⟨rfl, hw6⟩
  subst w6
  clear HD
  cases o
  · simp only [Bool.false_eq_true, if_false, if_true]
    go_wp2_with (first
      | (refine wpList_store_fld rfl 3 (.tmp 150) (.tmp 149) rfl w4.heap.size 0 (mcC ((pc : Int) + 1) a x mem) 35 _ rfl rfl J.kt (by rw [mc_size hl]; omega) inf_int rfl rfl ?_
         intro V2 hF7 hn7
         have J2 := J.put hF7 hn7 (t' := mcC ((pc : Int) + 1 + z) a x mem) (mc_s0 ((pc : Int) + 1 + z))
         clear hF7 hn7)
      | (refine wpList_load_row rfl 35 (.tmp 15) rfl w4.heap.size rfl 35 (mcC ((pc : Int) + 1 + z) a x mem) (0, 0) _ J2.kt.blk Tryd.underlying35 rfl (mc_inf hl) ?_)
      | (refine wpList_store_blk rfl 35 (.tmp 6) (.tmp 161) rfl (w.heap.size + 1 + 1) _ (mcC ((pc : Int) + 1 + z) a x mem) 35 rfl rfl J2.j.kz (vm_z19 hl) (mc_inf hl) mc_one ?_; intro w9 hw9 hn9))
    refine bodyPost_ret (v := .tuple #[.agg (mcC ((pc : Int) + 1 + z) a x mem), .int .u32 0, .bool false]) (results_row_two rfl _ _ (w.heap.size + 1 + 1) 35 (mcC ((pc : Int) + 1 + z) a x mem) (0, 0) _ rfl hw9.blk Tryd.underlying35 rfl (mc_inf hl) _ _ rfl rfl) rfl ?_
    exact ⟨rfl, (J2.j.out hn9 hw9).old⟩
  · simp only [Bool.false_eq_true, if_false, if_true]
    go_wp2_with (first
      | (refine wpList_store_fld rfl 3 (.tmp 143) (.tmp 142) rfl w4.heap.size 0 (mcC ((pc : Int) + 1) a x mem) 35 _ rfl rfl J.kt (by rw [mc_size hl]; omega) inf_int rfl rfl ?_
         intro V2 hF7 hn7
         have J2 := J.put hF7 hn7 (t' := mcC ((pc : Int) + 1 + y) a x mem) (mc_s0 ((pc : Int) + 1 + y))
         clear hF7 hn7)
      | (refine wpList_load_row rfl 35 (.tmp 15) rfl w4.heap.size rfl 35 (mcC ((pc : Int) + 1 + y) a x mem) (0, 0) _ J2.kt.blk Tryd.underlying35 rfl (mc_inf hl) ?_)
      | (refine wpList_store_blk rfl 35 (.tmp 6) (.tmp 161) rfl (w.heap.size + 1 + 1) _ (mcC ((pc : Int) + 1 + y) a x mem) 35 rfl rfl J2.j.kz (vm_z19 hl) (mc_inf hl) mc_one ?_; intro w9 hw9 hn9))
    refine bodyPost_ret (v := .tuple #[.agg (mcC ((pc : Int) + 1 + y) a x mem), .int .u32 0, .bool false]) (results_row_two rfl _ _ (w.heap.size + 1 + 1) 35 (mcC ((pc : Int) + 1 + y) a x mem) (0, 0) _ rfl hw9.blk Tryd.underlying35 rfl (mc_inf hl) _ _ rfl rfl) rfl ?_
    exact ⟨rfl, (J2.j.out hn9 hw9).old⟩

set_option maxRecDepth 100000 in
set_option maxHeartbeats 4000000 in
theorem rstep_53 (y z k : Int) (A : Option Addr) (m cap : Nat) (f : Nat → Ins) (d : Dat) (hd : DatOk d) (s : VmS) (hok : VmOk s) (w : World) (hA : Ri w w.heap.size A m f) (hcap : m ≤ cap) (hm : m ≤ 64) (hs : s.pc < m) (hf : f s.pc = (53, y, z, k)) (hy : 0 ≤ y ∧ y < 64) (hz : 0 ≤ z ∧ z < 64) :
    Calls Tryd.prog 16 #[.slice A m cap, datV d, vmV s] w fun e w' => e = .returned (.tuple #[.agg (mcC ((s.pc : Int) + 1 + (if hdI 53 s.a k = true then y else z)) s.a s.x s.mem), .int .u32 (0), .bool false]) ∧ Below w.heap.size w w' := by
  have hspc : (s.pc : Int) < m := by omega
  have ho := hA.ok s.pc hs
  rw [hf] at ho
  obtain ⟨b, off, rfl, hbl, pI, _⟩ := hA s.pc hs
  rw [hf] at pI
  simp only at pI
  have kd := ((Blk.new w (datC d) 32).alloc (.cells (vmC s) 35)).alloc (.cells zerL 35)
  have km := (Blk.new_ (w.alloc (.cells (datC d) 32)) (vmC s) 35 (n := w.heap.size + 1) (by simp)).alloc (.cells zerL 35)
  have kz := Blk.new_ ((w.alloc (.cells (datC d) 32)).alloc (.cells (vmC s) 35)) zerL 35 (n := w.heap.size + 1 + 1) (by simp)
  have B0 := (((Below.refl w.heap.size w).alloc (Nat.le_refl _) (.cells (datC d) 32)).alloc (by simp) (.cells (vmC s) 35)).alloc (by simp; omega) (.cells zerL 35)
  have c0 := (km.cell 0).trans mc_0
  obtain ⟨q0, q1, q2, q3⟩ := ri_at B0 hbl pI
  have N := fun V => refname_any 53 V (by decide)
  rw [show nameOf 53 = (⟨#[106, 103, 101, 46, 107]⟩, true) by kernel_rfl] at N
  have SP := fun V => split_any [106, 103, 101, 46, 107] (by decide) V
  rw [show headOf [106, 103, 101, 46, 107] = [106, 103, 101] by decide, show tailOf [106, 103, 101, 46, 107] = [107] by decide] at SP
  obtain ⟨hy0, hy1⟩ := hy
  obtain ⟨hz0, hz1⟩ := hz
  have HD := fun V => refhd_any 53 s.a k (by decide) (by decide) hok.a ⟨ho.k0, ho.k1⟩ V
  obtain ⟨o, hho⟩ : ∃ o, hdI 53 s.a k = o := ⟨_, rfl⟩
  rw [hho] at HD ⊢
  clear hho
  obtain ⟨pc, a, x, mem⟩ := s
  have hl : mem.length = 16 := hok.len
  have ha32 : U32 a := hok.a
  have hx32 : U32 x := hok.x
  simp only [vmC] at kd km kz B0 c0 q0 q1 q2 q3
  simp only at hspc hs hf ho
  simp only at HD
  unfold zerL at kd km kz B0 c0 q0 q1 q2 q3
  have hka : (0 : Int) ≤ pc := by omega
  unfold datV vmV
  simp only [vmC]
  go_enter Tryd.func16, Tryd.ntmps16
  go_wp2_with (refine wpList_store_blk rfl 54 (.tmp 9) (.tmp 23) rfl (w.heap.size + 1 + 1 + 1) _ (celI (53, y, z, k)).toArray 54 rfl rfl (Blk.new_ _ _ _ (by simp)) rfl (cel_inf _) (cel_ok _) ?_
               intro w2 hF2 hn2
               have J2 : RI w w2 (53, y, z, k) d pc a x mem zerL := ⟨But.blk' hn2 (kd.alloc _) (by omega), But.blk' hn2 (km.alloc _) (by omega), But.blk' hn2 (kz.alloc _) (by omega), hF2, (B0.alloc B0.size _).trans (hn2.below _ (by omega) (by simp; omega))⟩
               have i0 : w2.cell? ⟨w.heap.size + 1 + 1 + 1, 0, none⟩ = some (.int .u16 53) := hF2.cell 0
               clear hF2 hn2 kd km kz B0 c0 q0 q1 q2 q3)
  refine (N _).mono ?_
  rintro e w3 ⟨rfl, b3⟩
  have J3 := J2.below b3
  clear b3 J2 i0 N
  go_wp2_with fail
  refine (SP _).mono ?_
  rintro e w4 ⟨rfl, b4⟩
  have J4 := J3.below b4
  have i3 : w4.cell? ⟨w.heap.size + 1 + 1 + 1, 3, none⟩ = some (.int .u32 (k)) := J4.ki.cell 3
  have c0 := (J4.km.cell 0).trans mc_0
  have x0 : w4.cell? ⟨w.heap.size + 1, 2, none⟩ = some (.int .u32 x) := (J4.km.cell 2).trans mc_2
  clear b4 J3 SP
  go_wp2_with (first
    | (refine wpList_load_row rfl 35 (.tmp 5) rfl (w.heap.size + 1) rfl 35 (mcC pc a x mem) (0, 0) _ J4.km.blk Tryd.underlying35 rfl (mc_inf hl) ?_)
    | (refine wpList_store_blk rfl 35 (.tmp 15) (.tmp 41) rfl w4.heap.size _ (mcC pc a x mem) 35 rfl rfl (Blk.new_ _ _ _ rfl) (vm_z19 hl) (mc_inf hl) mc_one ?_
       intro w5 hF5 hn5
       have b5 : Below w4.heap.size w4 w5 := ((Below.refl _ w4).alloc (Nat.le_refl _) _).trans (hn5.below _ (Nat.le_refl _) (by simp))
       have J5 : RJ w w5 w4.heap.size (53, y, z, k) d pc a x mem zerL (mcC pc a x mem) := ⟨J4.below b5, hF5, J4.ki.lt⟩
       have c5 := (J5.j.km.cell 0).trans mc_0
       clear hn5 hF5 b5 c0 x0 i3 J4)
    | (refine wpList_store_fld rfl 3 (.tmp 45) (.tmp 44) rfl w4.heap.size 0 (mcC pc a x mem) 35 _ rfl rfl J5.kt (by rw [mc_size hl]; omega) inf_int rfl rfl ?_
       intro V hF6 hn6
       have J := J5.put hF6 hn6 (mc_s0 ((pc : Int) + 1))
       clear hF6 hn6 J5 c5
       have i0 : V.cell? ⟨w.heap.size + 1 + 1 + 1, 0, none⟩ = some (.int .u16 53) := J.j.ki.cell 0
       have i1 : V.cell? ⟨w.heap.size + 1 + 1 + 1, 1, none⟩ = some (.int .u8 y) := J.j.ki.cell 1
       have i2 : V.cell? ⟨w.heap.size + 1 + 1 + 1, 2, none⟩ = some (.int .u8 z) := J.j.ki.cell 2
       have i3 : V.cell? ⟨w.heap.size + 1 + 1 + 1, 3, none⟩ = some (.int .u32 (k)) := J.j.ki.cell 3
       have m1 := (J.j.km.cell 1).trans mc_1
       have m2 := (J.j.km.cell 2).trans mc_2
       have t0 := (J.kt.cell 0).trans mc_0))
  refine (HD _).mono ?_
  rintro e w6 ⟨rfl, hw6⟩
  subst w6
  clear HD
  cases o
  · simp only [Bool.false_eq_true, if_false, if_true]
    go_wp2_with (first
      | (refine wpList_store_fld rfl 3 (.tmp 150) (.tmp 149) rfl w4.heap.size 0 (mcC ((pc : Int) + 1) a x mem) 35 _ rfl rfl J.kt (by rw [mc_size hl]; omega) inf_int rfl rfl ?_
         intro V2 hF7 hn7
         have J2 := J.put hF7 hn7 (t' := mcC ((pc : Int) + 1 + z) a x mem) (mc_s0 ((pc : Int) + 1 + z))
         clear hF7 hn7)
      | (refine wpList_load_row rfl 35 (.tmp 15) rfl w4.heap.size rfl 35 (mcC ((pc : Int) + 1 + z) a x mem) (0, 0) _ J2.kt.blk Tryd.underlying35 rfl (mc_inf hl) ?_)
      | (refine wpList_store_blk rfl 35 (.tmp 6) (.tmp 161) rfl (w.heap.size + 1 + 1) _ (mcC ((pc : Int) + 1 + z) a x mem) 35 rfl rfl J2.j.kz (vm_z19 hl) (mc_inf hl) mc_one ?_; intro w9 hw9 hn9))
    refine bodyPost_ret (v := .tuple #[.agg (mcC ((pc : Int) + 1 + z) a x mem), .int .u32 0, .bool false]) (results_row_two rfl _ _ (w.heap.size + 1 + 1) 35 (mcC ((pc : Int) + 1 + z) a x mem) (0, 0) _ rfl hw9.blk Tryd.underlying35 rfl (mc_inf hl) _ _ rfl rfl) rfl ?_
    exact ⟨rfl, (J2.j.out hn9 hw9).old⟩
  · simp only [Bool.false_eq_true, if_false, if_true]
    go_wp2_with (first
      | (refine wpList_store_fld rfl 3 (.tmp 143) (.tmp 142) rfl w4.heap.size 0 (mcC ((pc : Int) + 1) a x mem) 35 _ rfl rfl J.kt (by rw [mc_size hl]; omega) inf_int rfl rfl ?_
         intro V2 hF7 hn7
         have J2 := J.put hF7 hn7 (t' := mcC ((pc : Int) + 1 + y) a x mem) (mc_s0 ((pc : Int) + 1 + y))
         clear hF7 hn7)
      | (refine wpList_load_row rfl 35 (.tmp 15) rfl w4.heap.size rfl 35 (mcC ((pc : Int) + 1 + y) a x mem) (0, 0) _ J2.kt.blk Tryd.underlying35 rfl (mc_inf hl) ?_)
      | (refine wpList_store_blk rfl 35 (.tmp 6) (.tmp 161) rfl (w.heap.size + 1 + 1) _ (mcC ((pc : Int) + 1 + y) a x mem) 35 rfl rfl J2.j.kz (vm_z19 hl) (mc_inf hl) mc_one ?_; intro w9 hw9 hn9))
    refine bodyPost_ret (v := .tuple #[.agg (mcC ((pc : Int) + 1 + y) a x mem), .int .u32 0, .bool false]) (results_row_two rfl _ _ (w.heap.size + 1 + 1) 35 (mcC ((pc : Int) + 1 + y) a x mem) (0, 0) _ rfl hw9.blk Tryd.underlying35 rfl (mc_inf hl) _ _ rfl rfl) rfl ?_
    exact ⟨rfl, (J2.j.out hn9 hw9).old⟩

set_option maxRecDepth 100000 in
set_option maxHeartbeats 4000000 in
theorem rstep_61 (y z k : Int) (A : Option Addr) (m cap : Nat) (f : Nat → Ins) (d : Dat) (hd : DatOk d) (s : VmS) (hok : VmOk s) (w : World) (hA : Ri w w.heap.size A m f) (hcap : m ≤ cap) (hm : m ≤ 64) (hs : s.pc < m) (hf : f s.pc = (61, y, z, k)) (hy : 0 ≤ y ∧ y < 64) (hz : 0 ≤ z ∧ z < 64) :
    Calls Tryd.prog 16 #[.slice A m cap, datV d, vmV s] w fun e w' => e = .returned (.tuple #[.agg (mcC ((s.pc : Int) + 1 + (if hdI 61 s.a s.x = true then y else z)) s.a s.x s.mem), .int .u32 (0), .bool false]) ∧ Below w.heap.size w w' := by
  have hspc : (s.pc : Int) < m := by omega
  have ho := hA.ok s.pc hs
  rw [hf] at ho
  obtain ⟨b, off, rfl, hbl, pI, _⟩ := hA s.pc hs
  rw [hf] at pI
  simp only at pI
  have kd := ((Blk.new w (datC d) 32).alloc (.cells (vmC s) 35)).alloc (.cells zerL 35)
  have km := (Blk.new_ (w.alloc (.cells (datC d) 32)) (vmC s) 35 (n := w.heap.size + 1) (by simp)).alloc (.cells zerL 35)
  have kz := Blk.new_ ((w.alloc (.cells (datC d) 32)).alloc (.cells (vmC s) 35)) zerL 35 (n := w.heap.size + 1 + 1) (by simp)
  have B0 := (((Below.refl w.heap.size w).alloc (Nat.le_refl _) (.cells (datC d) 32)).alloc (by simp) (.cells (vmC s) 35)).alloc (by simp; omega) (.cells zerL 35)
  have c0 := (km.cell 0).trans mc_0
  obtain ⟨q0, q1, q2, q3⟩ := ri_at B0 hbl pI
  have N := fun V => refname_any 61 V (by decide)
  rw [show nameOf 61 = (⟨#[106, 103, 101, 46, 120]⟩, true) by kernel_rfl] at N
  have SP := fun V => split_any [106, 103, 101, 46, 120] (by decide) V
  rw [show headOf [106, 103, 101, 46, 120] = [106, 103, 101] by decide, show tailOf [106, 103, 101, 46, 120] = [120] by decide] at SP
  obtain ⟨hy0, hy1⟩ := hy
  obtain ⟨hz0, hz1⟩ := hz
  have HD := fun V => refhd_any 61 s.a s.x (by decide) (by decide) hok.a hok.x V
  obtain ⟨o, hho⟩ : ∃ o, hdI 61 s.a s.x = o := ⟨_, rfl⟩
  rw [hho] at HD ⊢
  clear hho
  obtain ⟨pc, a, x, mem⟩ := s
  have hl : mem.length = 16 := hok.len
  have ha32 : U32 a := hok.a
  have hx32 : U32 x := hok.x
  simp only [vmC] at kd km kz B0 c0 q0 q1 q2 q3
  simp only at hspc hs hf ho
  simp only at HD
  unfold zerL at kd km kz B0 c0 q0 q1 q2 q3
  have hka : (0 : Int) ≤ pc := by omega
  unfold datV vmV
  simp only [vmC]
  go_enter Tryd.func16, Tryd.ntmps16
  go_wp2_with (refine wpList_store_blk rfl 54 (.tmp 9) (.tmp 23) rfl (w.heap.size + 1 + 1 + 1) _ (celI (61, y, z, k)).toArray 54 rfl rfl (Blk.new_ _ _ _ (by simp)) rfl (cel_inf _) (cel_ok _) ?_
               intro w2 hF2 hn2
               have J2 : RI w w2 (61, y, z, k) d pc a x mem zerL := ⟨But.blk' hn2 (kd.alloc _) (by omega), But.blk' hn2 (km.alloc _) (by omega), But.blk' hn2 (kz.alloc _) (by omega), hF2, (B0.alloc B0.size _).trans (hn2.below _ (by omega) (by simp; omega))⟩
               have i0 : w2.cell? ⟨w.heap.size + 1 + 1 + 1, 0, none⟩ = some (.int .u16 61) := hF2.cell 0
               clear hF2 hn2 kd km kz B0 c0 q0 q1 q2 q3)
  refine (N _).mono ?_
  rintro e w3 ⟨rfl, b3⟩
  have J3 := J2.below b3
  clear b3 J2 i0 N
  go_wp2_with fail
  refine (SP _).mono ?_
  rintro e w4 ⟨rfl, b4⟩
  have J4 := J3.below b4
  have i3 : w4.cell? ⟨w.heap.size + 1 + 1 + 1, 3, none⟩ = some (.int .u32 (k)) := J4.ki.cell 3
  have c0 := (J4.km.cell 0).trans mc_0
  have x0 : w4.cell? ⟨w.heap.size + 1, 2, none⟩ = some (.int .u32 x) := (J4.km.cell 2).trans mc_2
  clear b4 J3 SP
  go_wp2_with (first
    | (refine wpList_load_row rfl 35 (.tmp 5) rfl (w.heap.size + 1) rfl 35 (mcC pc a x mem) (0, 0) _ J4.km.blk Tryd.underlying35 rfl (mc_inf hl) ?_)
    | (refine wpList_store_blk rfl 35 (.tmp 15) (.tmp 41) rfl w4.heap.size _ (mcC pc a x mem) 35 rfl rfl (Blk.new_ _ _ _ rfl) (vm_z19 hl) (mc_inf hl) mc_one ?_
       intro w5 hF5 hn5
       have b5 : Below w4.heap.size w4 w5 := ((Below.refl _ w4).alloc (Nat.le_refl _) _).trans (hn5.below _ (Nat.le_refl _) (by simp))
       have J5 : RJ w w5 w4.heap.size (61, y, z, k) d pc a x mem zerL (mcC pc a x mem) := ⟨J4.below b5, hF5, J4.ki.lt⟩
       have c5 := (J5.j.km.cell 0).trans mc_0
       clear hn5 hF5 b5 c0 x0 i3 J4)
    | (refine wpList_store_fld rfl 3 (.tmp 45) (.tmp 44) rfl w4.heap.size 0 (mcC pc a x mem) 35 _ rfl rfl J5.kt (by rw [mc_size hl]; omega) inf_int rfl rfl ?_
       intro V hF6 hn6
       have J := J5.put hF6 hn6 (mc_s0 ((pc : Int) + 1))
       clear hF6 hn6 J5 c5
       have i0 : V.cell? ⟨w.heap.size + 1 + 1 + 1, 0, none⟩ = some (.int .u16 61) := J.j.ki.cell 0
       have i1 : V.cell? ⟨w.heap.size + 1 + 1 + 1, 1, none⟩ = some (.int .u8 y) := J.j.ki.cell 1
       have i2 : V.cell? ⟨w.heap.size + 1 + 1 + 1, 2, none⟩ = some (.int .u8 z) := J.j.ki.cell 2
       have i3 : V.cell? ⟨w.heap.size + 1 + 1 + 1, 3, none⟩ = some (.int .u32 (k)) := J.j.ki.cell 3
       have m1 := (J.j.km.cell 1).trans mc_1
       have m2 := (J.j.km.cell 2).trans mc_2
       have t0 := (J.kt.cell 0).trans mc_0))
  refine (HD _).mono ?_
  rintro e w6 ⟨rfl, hw6⟩
  subst w6
  clear HD
  cases o
  · simp only [Bool.false_eq_true, if_false, if_true]
    go_wp2_with (first
      | (refine wpList_store_fld rfl 3 (.tmp 150) (.tmp 149) rfl w4.heap.size 0 (mcC ((pc : Int) + 1) a x mem) 35 _ rfl rfl J.kt (by rw [mc_size hl]; omega) inf_int rfl rfl ?_
         intro V2 hF7 hn7
         have J2 := J.put hF7 hn7 (t' := mcC ((pc : Int) + 1 + z) a x mem) (mc_s0 ((pc : Int) + 1 + z))
         clear hF7 hn7)
      | (refine wpList_load_row rfl 35 (.tmp 15) rfl w4.heap.size rfl 35 (mcC ((pc : Int) + 1 + z) a x mem) (0, 0) _ J2.kt.blk Tryd.underlying35 rfl (mc_inf hl) ?_)
      | (refine wpList_store_blk rfl 35 (.tmp 6) (.tmp 161) rfl (w.heap.size + 1 + 1) _ (mcC ((pc : Int) + 1 + z) a x mem) 35 rfl rfl J2.j.kz (vm_z19 hl) (mc_inf hl) mc_one ?_; intro w9 hw9 hn9))
    refine bodyPost_ret (v := .tuple #[.agg (mcC ((pc : Int) + 1 + z) a x mem), .int .u32 0, .bool false]) (results_row_two rfl _ _ (w.heap.size + 1 + 1) 35 (mcC ((pc : Int) + 1 + z) a x mem) (0, 0) _ rfl hw9.blk Tryd.underlying35 rfl (mc_inf hl) _ _ rfl rfl) rfl ?_
    exact ⟨rfl, (J2.j.out hn9 hw9).old⟩
  · simp only [Bool.false_eq_true, if_false, if_true]
    go_wp2_with (first
      | (refine wpList_store_fld rfl 3 (.tmp 143) (.tmp 142) rfl w4.heap.size 0 (mcC ((pc : Int) + 1) a x mem) 35 _ rfl rfl J.kt (by rw [mc_size hl]; omega) inf_int rfl rfl ?_
         intro V2 hF7 hn7
         have J2 := J.put hF7 hn7 (t' := mcC ((pc : Int) + 1 + y) a x mem) (mc_s0 ((pc : Int) + 1 + y))
         clear hF7 hn7)
      | (refine wpList_load_row rfl 35 (.tmp 15) rfl w4.heap.size rfl 35 (mcC ((pc : Int) + 1 + y) a x mem) (0, 0) _ J2.kt.blk Tryd.underlying35 rfl (mc_inf hl) ?_)
      | (refine wpList_store_blk rfl 35 (.tmp 6) (.tmp 161) rfl (w.heap.size + 1 + 1) _ (mcC ((pc : Int) + 1 + y) a x mem) 35 rfl rfl J2.j.kz (vm_z19 hl) (mc_inf hl) mc_one ?_; intro w9 hw9 hn9))
    refine bodyPost_ret (v := .tuple #[.agg (mcC ((pc : Int) + 1 + y) a x mem), .int .u32 0, .bool false]) (results_row_two rfl _ _ (w.heap.size + 1 + 1) 35 (mcC ((pc : Int) + 1 + y) a x mem) (0, 0) _ rfl hw9.blk Tryd.underlying35 rfl (mc_inf hl) _ _ rfl rfl) rfl ?_
    exact ⟨rfl, (J2.j.out hn9 hw9).old⟩

set_option maxRecDepth 100000 in
set_option maxHeartbeats 4000000 in
theorem rstep_69 (y z k : Int) (A : Option Addr) (m cap : Nat) (f : Nat → Ins) (d : Dat) (hd : DatOk d) (s : VmS) (hok : VmOk s) (w : World) (hA : Ri w w.heap.size A m f) (hcap : m ≤ cap) (hm : m ≤ 64) (hs : s.pc < m) (hf : f s.pc = (69, y, z, k)) (hy : 0 ≤ y ∧ y < 64) (hz : 0 ≤ z ∧ z < 64) :
    Calls Tryd.prog 16 #[.slice A m cap, datV d, vmV s] w fun e w' => e = .returned (.tuple #[.agg (mcC ((s.pc : Int) + 1 + (if hdI 69 s.a k = true then y else z)) s.a s.x s.mem), .int .u32 (0), .bool false]) ∧ Below w.heap.size w w' := by
  have hspc : (s.pc : Int) < m := by omega
  have ho := hA.ok s.pc hs
  rw [hf] at ho
  obtain ⟨b, off, rfl, hbl, pI, _⟩ := hA s.pc hs
  rw [hf] at pI
  simp only at pI
  have kd := ((Blk.new w (datC d) 32).alloc (.cells (vmC s) 35)).alloc (.cells zerL 35)
  have km := (Blk.new_ (w.alloc (.cells (datC d) 32)) (vmC s) 35 (n := w.heap.size + 1) (by simp)).alloc (.cells zerL 35)
  have kz := Blk.new_ ((w.alloc (.cells (datC d) 32)).alloc (.cells (vmC s) 35)) zerL 35 (n := w.heap.size + 1 + 1) (by simp)
  have B0 := (((Below.refl w.heap.size w).alloc (Nat.le_refl _) (.cells (datC d) 32)).alloc (by simp) (.cells (vmC s) 35)).alloc (by simp; omega) (.cells zerL 35)
  have c0 := (km.cell 0).trans mc_0
  obtain ⟨q0, q1, q2, q3⟩ := ri_at B0 hbl pI
  have N := fun V => refname_any 69 V (by decide)
  rw [show nameOf 69 = (⟨#[106, 115, 101, 116, 46, 107]⟩, true) by kernel_rfl] at N
  have SP := fun V => split_any [106, 115, 101, 116, 46, 107] (by decide) V
  rw [show headOf [106, 115, 101, 116, 46, 107] = [106, 115, 101, 116] by decide, show tailOf [106, 115, 101, 116, 46, 107] = [107] by decide] at SP
  obtain ⟨hy0, hy1⟩ := hy
  obtain ⟨hz0, hz1⟩ := hz
  have HD := fun V => refhd_any 69 s.a k (by decide) (by decide) hok.a ⟨ho.k0, ho.k1⟩ V
  obtain ⟨o, hho⟩ : ∃ o, hdI 69 s.a k = o := ⟨_, rfl⟩
  rw [hho] at HD ⊢
  clear hho
  obtain ⟨pc, a, x, mem⟩ := s
  have hl : mem.length = 16 := hok.len
  have ha32 : U32 a := hok.a
  have hx32 : U32 x := hok.x
  simp only [vmC] at kd km kz B0 c0 q0 q1 q2 q3
  simp only at hspc hs hf ho
  simp only at HD
  unfold zerL at kd km kz B0 c0 q0 q1 q2 q3
  have hka : (0 : Int) ≤ pc := by omega
  unfold datV vmV
  simp only [vmC]
  go_enter Tryd.func16, Tryd.ntmps16
  go_wp2_with (refine wpList_store_blk rfl 54 (.tmp 9) (.tmp 23) rfl (w.heap.size + 1 + 1 + 1) _ (celI (69, y, z, k)).toArray 54 rfl rfl (Blk.new_ _ _ _ (by simp)) rfl (cel_inf _) (cel_ok _) ?_
               intro w2 hF2 hn2
               have J2 : RI w w2 (69, y, z, k) d pc a x mem zerL := ⟨But.blk' hn2 (kd.alloc _) (by omega), But.blk' hn2 (km.alloc _) (by omega), But.blk' hn2 (kz.alloc _) (by omega), hF2, (B0.alloc B0.size _).trans (hn2.below _ (by omega) (by simp; omega))⟩
               have i0 : w2.cell? ⟨w.heap.size + 1 + 1 + 1, 0, none⟩ = some (.int .u16 69) := hF2.cell 0
               clear hF2 hn2 kd km kz B0 c0 q0 q1 q2 q3)
  refine (N _).mono ?_
  rintro e w3 ⟨rfl, b3⟩
  have J3 := J2.below b3
  clear b3 J2 i0 N
  go_wp2_with fail
  refine (SP _).mono ?_
  rintro e w4 ⟨rfl, b4⟩
  have J4 := J3.below b4
  have i3 : w4.cell? ⟨w.heap.size + 1 + 1 + 1, 3, none⟩ = some (.int .u32 (k)) := J4.ki.cell 3
  have c0 := (J4.km.cell 0).trans mc_0
  have x0 : w4.cell? ⟨w.heap.size + 1, 2, none⟩ = some (.int .u32 x) := (J4.km.cell 2).trans mc_2
  clear b4 J3 SP
  go_wp2_with (first
    | (refine wpList_load_row rfl 35 (.tmp 5) rfl (w.heap.size + 1) rfl 35 (mcC pc a x mem) (0, 0) _ J4.km.blk Tryd.underlying35 rfl (mc_inf hl) ?_)
    | (refine wpList_store_blk rfl 35 (.tmp 15) (.tmp 41) rfl w4.heap.size _ (mcC pc a x mem) 35 rfl rfl (Blk.new_ _ _ _ rfl) (vm_z19 hl) (mc_inf hl) mc_one ?_
       intro w5 hF5 hn5
       have b5 : Below w4.heap.size w4 w5 := ((Below.refl _ w4).alloc (Nat.le_refl _) _).trans (hn5.below _ (Nat.le_refl _) (by simp))
       have J5 : RJ w w5 w4.heap.size (69, y, z, k) d pc a x mem zerL (mcC pc a x mem) := ⟨J4.below b5, hF5, J4.ki.lt⟩
       have c5 := (J5.j.km.cell 0).trans mc_0
       clear hn5 hF5 b5 c0 x0 i3 J4)
    | (refine wpList_store_fld rfl 3 (.tmp 45) (.tmp 44) rfl w4.heap.size 0 (mcC pc a x mem) 35 _ rfl rfl J5.kt (by rw [mc_size hl]; omega) inf_int rfl rfl ?_
       intro V hF6 hn6
       have J := J5.put hF6 hn6 (mc_s0 ((pc : Int) + 1))
       clear hF6 hn6 J5 c5
       have i0 : V.cell? ⟨w.heap.size + 1 + 1 + 1, 0, none⟩ = some (.int .u16 69) := J.j.ki.cell 0
       have i1 : V.cell? ⟨w.heap.size + 1 + 1 + 1, 1, none⟩ = some (.int .u8 y) := J.j.ki.cell 1
       have i2 : V.cell? ⟨w.heap.size + 1 + 1 + 1, 2, none⟩ = some (.int .u8 z) := J.j.ki.cell 2
       have i3 : V.cell? ⟨w.heap.size + 1 + 1 + 1, 3, none⟩ = some (.int .u32 (k)) := J.j.ki.cell 3
       have m1 := (J.j.km.cell 1).trans mc_1
       have m2 := (J.j.km.cell 2).trans mc_2
       have t0 := (J.kt.cell 0).trans mc_0))
  refine (HD _).mono ?_
  rintro e w6 ⟨rfl, hw6⟩
  subst w6
  clear HD
  cases o
  · simp only [Bool.false_eq_true, if_false, if_true]
    go_wp2_with (first
      | (refine wpList_store_fld rfl 3 (.tmp 150) (.tmp 149) rfl w4.heap.size 0 (mcC ((pc : Int) + 1) a x mem) 35 _ rfl rfl J.kt (by rw [mc_size hl]; omega) inf_int rfl rfl ?_
         intro V2 hF7 hn7
         have J2 := J.put hF7 hn7 (t' := mcC ((pc : Int) + 1 + z) a x mem) (mc_s0 ((pc : Int) + 1 + z))
         clear hF7 hn7)
      | (refine wpList_load_row rfl 35 (.tmp 15) rfl w4.heap.size rfl 35 (mcC ((pc : Int) + 1 + z) a x mem) (0, 0) _ J2.kt.blk Tryd.underlying35 rfl (mc_inf hl) ?_)
      | (refine wpList_store_blk rfl 35 (.tmp 6) (.tmp 161) rfl (w.heap.size + 1 + 1) _ (mcC ((pc : Int) + 1 + z) a x mem) 35 rfl rfl J2.j.kz (vm_z19 hl) (mc_inf hl) mc_one ?_; intro w9 hw9 hn9))
    refine bodyPost_ret (v := .tuple #[.agg (mcC ((pc : Int) + 1 + z) a x mem), .int .u32 0, .bool false]) (results_row_two rfl _ _ (w.heap.size + 1 + 1) 35 (mcC ((pc : Int) + 1 + z) a x mem) (0, 0) _ rfl hw9.blk Tryd.underlying35 rfl (mc_inf hl) _ _ rfl rfl) rfl ?_
    exact ⟨rfl, (J2.j.out hn9 hw9).old⟩
  · simp only [Bool.false_eq_true, if_false, if_true]
    go_wp2_with (first
      | (refine wpList_store_fld rfl 3 (.tmp 143) (.tmp 142) rfl w4.heap.size 0 (mcC ((pc : Int) + 1) a x mem) 35 _ rfl rfl J.kt (by rw [mc_size hl]; omega) inf_int rfl rfl ?_
         intro V2 hF7 hn7
         have J2 := J.put hF7 hn7 (t' := mcC ((pc : Int) + 1 + y) a x mem) (mc_s0 ((pc : Int) + 1 + y))
         clear hF7 hn7)
      | (refine wpList_load_row rfl 35 (.tmp 15) rfl w4.heap.size rfl 35 (mcC ((pc : Int) + 1 + y) a x mem) (0, 0) _ J2.kt.blk Tryd.underlying35 rfl (mc_inf hl) ?_)
      | (refine wpList_store_blk rfl 35 (.tmp 6) (.tmp 161) rfl (w.heap.size + 1 + 1) _ (mcC ((pc : Int) + 1 + y) a x mem) 35 rfl rfl J2.j.kz (vm_z19 hl) (mc_inf hl) mc_one ?_; intro w9 hw9 hn9))
    refine bodyPost_ret (v := .tuple #[.agg (mcC ((pc : Int) + 1 + y) a x mem), .int .u32 0, .bool false]) (results_row_two rfl _ _ (w.heap.size + 1 + 1) 35 (mcC ((pc : Int) + 1 + y) a x mem) (0, 0) _ rfl hw9.blk Tryd.underlying35 rfl (mc_inf hl) _ _ rfl rfl) rfl ?_
    exact ⟨rfl, (J2.j.out hn9 hw9).old⟩

set_option maxRecDepth 100000 in
set_option maxHeartbeats 4000000 in
theorem rstep_77 (y z k : Int) (A : Option Addr) (m cap : Nat) (f : Nat → Ins) (d : Dat) (hd : DatOk d) (s : VmS) (hok : VmOk s) (w : World) (hA : Ri w w.heap.size A m f) (hcap : m ≤ cap) (hm : m ≤ 64) (hs : s.pc < m) (hf : f s.pc = (77, y, z, k)) (hy : 0 ≤ y ∧ y < 64) (hz : 0 ≤ z ∧ z < 64) :
    Calls Tryd.prog 16 #[.slice A m cap, datV d, vmV s] w fun e w' => e = .returned (.tuple #[.agg (mcC ((s.pc : Int) + 1 + (if hdI 77 s.a s.x = true then y else z)) s.a s.x s.mem), .int .u32 (0), .bool false]) ∧ Below w.heap.size w w' := by
  have hspc : (s.pc : Int) < m := by omega
  have ho := hA.ok s.pc hs
  rw [hf] at ho
  obtain ⟨b, off, rfl, hbl, pI, _⟩ := hA s.pc hs
  rw [hf] at pI
  simp only at pI
  have kd := ((Blk.new w (datC d) 32).alloc (.cells (vmC s) 35)).alloc (.cells zerL 35)
  have km := (Blk.new_ (w.alloc (.cells (datC d) 32)) (vmC s) 35 (n := w.heap.size + 1) (by simp)).alloc (.cells zerL 35)
  have kz := Blk.new_ ((w.alloc (.cells (datC d) 32)).alloc (.cells (vmC s) 35)) zerL 35 (n := w.heap.size + 1 + 1) (by simp)
  have B0 := (((Below.refl w.heap.size w).alloc (Nat.le_refl _) (.cells (datC d) 32)).alloc (by simp) (.cells (vmC s) 35)).alloc (by simp; omega) (.cells zerL 35)
  have c0 := (km.cell 0).trans mc_0
  obtain ⟨q0, q1, q2, q3⟩ := ri_at B0 hbl pI
  have N := fun V => refname_any 77 V (by decide)
  rw [show nameOf 77 = (⟨#[106, 115, 101, 116, 46, 120]⟩, true) by kernel_rfl] at N
  have SP := fun V => split_any [106, 115, 101, 116, 46, 120] (by decide) V
  rw [show headOf [106, 115, 101, 116, 46, 120] = [106, 115, 101, 116] by decide, show tailOf [106, 115, 101, 116, 46, 120] = [120] by decide] at SP
  obtain ⟨hy0, hy1⟩ := hy
  obtain ⟨hz0, hz1⟩ := hz
  have HD := fun V => refhd_any 77 s.a s.x (by decide) (by decide) hok.a hok.x V
  obtain ⟨o, hho⟩ : ∃ o, hdI 77 s.a s.x = o := ⟨_, rfl⟩
  rw [hho] at HD ⊢
  clear hho
  obtain ⟨pc, a, x, mem⟩ := s
  have hl : mem.length = 16 := hok.len
  have ha32 : U32 a := hok.a
  have hx32 : U32 x := hok.x
  simp only [vmC] at kd km kz B0 c0 q0 q1 q2 q3
  simp only at hspc hs hf ho
  simp only at HD
  unfold zerL at kd km kz B0 c0 q0 q1 q2 q3
  have hka : (0 : Int) ≤ pc := by omega
  unfold datV vmV
  simp only [vmC]
  go_enter Tryd.func16, Tryd.ntmps16
  go_wp2_with (refine wpList_store_blk rfl 54 (.tmp 9) (.tmp 23) rfl (w.heap.size + 1 + 1 + 1) _ (celI (77, y, z, k)).toArray 54 rfl rfl (Blk.new_ _ _ _ (by simp)) rfl (cel_inf _) (cel_ok _) ?_
               intro w2 hF2 hn2
               have J2 : RI w w2 (77, y, z, k) d pc a x mem zerL := ⟨But.blk' hn2 (kd.alloc _) (by omega), But.blk' hn2 (km.alloc _) (by omega), But.blk' hn2 (kz.alloc _) (by omega), hF2, (B0.alloc B0.size _).trans (hn2.below _ (by omega) (by simp; omega))⟩
               have i0 : w2.cell? ⟨w.heap.size + 1 + 1 + 1, 0, none⟩ = some (.int .u16 77) := hF2.cell 0
               clear hF2 hn2 kd km kz B0 c0 q0 q1 q2 q3)
  refine (N _).mono ?_
  rintro e w3 ⟨rfl, b3⟩
  have J3 := J2.below b3
  clear b3 J2 i0 N
  go_wp2_with fail
  refine (SP _).mono ?_
  rintro e w4 ⟨rfl, b4⟩
  have J4 := J3.below b4
  have i3 : w4.cell? ⟨w.heap.size + 1 + 1 + 1, 3, none⟩ = some (.int .u32 (k)) := J4.ki.cell 3
  have c0 := (J4.km.cell 0).trans mc_0
  have x0 : w4.cell? ⟨w.heap.size + 1, 2, none⟩ = some (.int .u32 x) := (J4.km.cell 2).trans mc_2
  clear b4 J3 SP
  go_wp2_with (first
    | (refine wpList_load_row rfl 35 (.tmp 5) rfl (w.heap.size + 1) rfl 35 (mcC pc a x mem) (0, 0) _ J4.km.blk Tryd.underlying35 rfl (mc_inf hl) ?_)
    | (refine wpList_store_blk rfl 35 (.tmp 15) (.tmp 41) rfl w4.heap.size _ (mcC pc a x mem) 35 rfl rfl (Blk.new_ _ _ _ rfl) (vm_z19 hl) (mc_inf hl) mc_one ?_
       intro w5 hF5 hn5
       have b5 : Below w4.heap.size w4 w5 := ((Below.refl _ w4).alloc (Nat.le_refl _) _).trans (hn5.below _ (Nat.le_refl _) (by simp))
       have J5 : RJ w w5 w4.heap.size (77, y, z, k) d pc a x mem zerL (mcC pc a x mem) := ⟨J4.below b5, hF5, J4.ki.lt⟩
       have c5 := (J5.j.km.cell 0).trans mc_0
       clear hn5 hF5 b5 c0 x0 i3 J4)
    | (refine wpList_store_fld rfl 3 (.tmp 45) (.tmp 44) rfl w4.heap.size 0 (mcC pc a x mem) 35 _ rfl rfl J5.kt (by rw [mc_size hl]; omega) inf_int rfl rfl ?_
       intro V hF6 hn6
       have J := J5.put hF6 hn6 (mc_s0 ((pc : Int) + 1))
       clear hF6 hn6 J5 c5
       have i0 : V.cell? ⟨w.heap.size + 1 + 1 + 1, 0, none⟩ = some (.int .u16 77) := J.j.ki.cell 0
       have i1 : V.cell? ⟨w.heap.size + 1 + 1 + 1, 1, none⟩ = some (.int .u8 y) := J.j.ki.cell 1
       have i2 : V.cell? ⟨w.heap.size + 1 + 1 + 1, 2, none⟩ = some (.int .u8 z) := J.j.ki.cell 2
       have i3 : V.cell? ⟨w.heap.size + 1 + 1 + 1, 3, none⟩ = some (.int .u32 (k)) := J.j.ki.cell 3
       have m1 := (J.j.km.cell 1).trans mc_1
       have m2 := (J.j.km.cell 2).trans mc_2
       have t0 := (J.kt.cell 0).trans mc_0))
  refine (HD _).mono ?_
  rintro e w6 ⟨rfl, hw6⟩
  subst w6
  clear HD
  cases o
  · simp only [Bool.false_eq_true, if_false, if_true]
    go_wp2_with (first
      | (refine wpList_store_fld rfl 3 (.tmp 150) (.tmp 149) rfl w4.heap.size 0 (mcC ((pc : Int) + 1) a x mem) 35 _ rfl rfl J.kt (by rw [mc_size hl]; omega) inf_int rfl rfl ?_
         intro V2 hF7 hn7
         have J2 := J.put hF7 hn7 (t' := mcC ((pc : Int) + 1 + z) a x mem) (mc_s0 ((pc : Int) + 1 + z))
         clear hF7 hn7)
      | (refine wpList_load_row rfl 35 (.tmp 15) rfl w4.heap.size rfl 35 (mcC ((pc : Int) + 1 + z) a x mem) (0, 0) _ J2.kt.blk Tryd.underlying35 rfl (mc_inf hl) ?_)
      | (refine wpList_store_blk rfl 35 (.tmp 6) (.tmp 161) rfl (w.heap.size + 1 + 1) _ (mcC ((pc : Int) + 1 + z) a x mem) 35 rfl rfl J2.j.kz (vm_z19 hl) (mc_inf hl) mc_one ?_; intro w9 hw9 hn9))
    refine bodyPost_ret (v := .tuple #[.agg (mcC ((pc : Int) + 1 + z) a x mem), .int .u32 0, .bool false]) (results_row_two rfl _ _ (w.heap.size + 1 + 1) 35 (mcC ((pc : Int) + 1 + z) a x mem) (0, 0) _ rfl hw9.blk Tryd.underlying35 rfl (mc_inf hl) _ _ rfl rfl) rfl ?_
    exact ⟨rfl, (J2.j.out hn9 hw9).old⟩
  · simp only [Bool.false_eq_true, if_false, if_true]
    go_wp2_with (first
      | (refine wpList_store_fld rfl 3 (.tmp 143) (.tmp 142) rfl w4.heap.size 0 (mcC ((pc : Int) + 1) a x mem) 35 _ rfl rfl J.kt (by rw [mc_size hl]; omega) inf_int rfl rfl ?_
         intro V2 hF7 hn7
         have J2 := J.put hF7 hn7 (t' := mcC ((pc : Int) + 1 + y) a x mem) (mc_s0 ((pc : Int) + 1 + y))
         clear hF7 hn7)
      | (refine wpList_load_row rfl 35 (.tmp 15) rfl w4.heap.size rfl 35 (mcC ((pc : Int) + 1 + y) a x mem) (0, 0) _ J2.kt.blk Tryd.underlying35 rfl (mc_inf hl) ?_)
      | (refine wpList_store_blk rfl 35 (.tmp 6) (.tmp 161) rfl (w.heap.size + 1 + 1) _ (mcC ((pc : Int) + 1 + y) a x mem) 35 rfl rfl J2.j.kz (vm_z19 hl) (mc_inf hl) mc_one ?_; intro w9 hw9 hn9))
    refine bodyPost_ret (v := .tuple #[.agg (mcC ((pc : Int) + 1 + y) a x mem), .int .u32 0, .bool false]) (results_row_two rfl _ _ (w.heap.size + 1 + 1) 35 (mcC ((pc : Int) + 1 + y) a x mem) (0, 0) _ rfl hw9.blk Tryd.underlying35 rfl (mc_inf hl) _ _ rfl rfl) rfl ?_
    exact ⟨rfl, (J2.j.out hn9 hw9).old⟩

set_option maxRecDepth 100000 in
set_option maxHeartbeats 4000000 in
theorem rstep_96 (y z k : Int) (A : Option Addr) (m cap : Nat) (f : Nat → Ins) (d : Dat) (hd : DatOk d) (s : VmS) (hok : VmOk s) (w : World) (hA : Ri w w.heap.size A m f) (hcap : m ≤ cap) (hm : m ≤ 64) (hs : s.pc < m) (hf : f s.pc = (96, y, z, k)) (kn : Nat) (hkn : k = (kn : Int)) (h16 : kn < 16) :
    Calls Tryd.prog 16 #[.slice A m cap, datV d, vmV s] w fun e w' => e = .returned (.tuple #[.agg (mcC ((s.pc : Int) + 1) (s.mem.getD kn 0) s.x s.mem), .int .u32 (0), .bool false]) ∧ Below w.heap.size w w' := by
  have hspc : (s.pc : Int) < m := by omega
  have ho := hA.ok s.pc hs
  rw [hf] at ho
  obtain ⟨b, off, rfl, hbl, pI, _⟩ := hA s.pc hs
  rw [hf] at pI
  simp only at pI
  have kd := ((Blk.new w (datC d) 32).alloc (.cells (vmC s) 35)).alloc (.cells zerL 35)
  have km := (Blk.new_ (w.alloc (.cells (datC d) 32)) (vmC s) 35 (n := w.heap.size + 1) (by simp)).alloc (.cells zerL 35)
  have kz := Blk.new_ ((w.alloc (.cells (datC d) 32)).alloc (.cells (vmC s) 35)) zerL 35 (n := w.heap.size + 1 + 1) (by simp)
  have B0 := (((Below.refl w.heap.size w).alloc (Nat.le_refl _) (.cells (datC d) 32)).alloc (by simp) (.cells (vmC s) 35)).alloc (by simp; omega) (.cells zerL 35)
  have c0 := (km.cell 0).trans mc_0
  obtain ⟨q0, q1, q2, q3⟩ := ri_at B0 hbl pI
  have N := fun V => refname_any 96 V (by decide)
  rw [show nameOf 96 = (⟨#[108, 100, 46, 109, 101, 109]⟩, true) by kernel_rfl] at N
  have SP := fun V => split_any [108, 100, 46, 109, 101, 109] (by decide) V
  rw [show headOf [108, 100, 46, 109, 101, 109] = [108, 100] by decide, show tailOf [108, 100, 46, 109, 101, 109] = [109, 101, 109] by decide] at SP
  subst hkn
  have h16' : (kn : Int) < 16 := by omega
  obtain ⟨u, hu⟩ : ∃ u, s.mem.getD kn 0 = u := ⟨_, rfl⟩
  rw [hu]
  obtain ⟨pc, a, x, mem⟩ := s
  have hl : mem.length = 16 := hok.len
  have ha32 : U32 a := hok.a
  have hx32 : U32 x := hok.x
  simp only [vmC] at kd km kz B0 c0 q0 q1 q2 q3
  simp only at hspc hs hf ho
  have HU := Lib.hid (show mem.getD kn 0 = u from hu)
  clear hu
  unfold zerL at kd km kz B0 c0 q0 q1 q2 q3
  have hka : (0 : Int) ≤ pc := by omega
  unfold datV vmV
  simp only [vmC]
  go_enter Tryd.func16, Tryd.ntmps16
  go_wp2_with (refine wpList_store_blk rfl 54 (.tmp 9) (.tmp 23) rfl (w.heap.size + 1 + 1 + 1) _ (celI (96, y, z, (kn : Int))).toArray 54 rfl rfl (Blk.new_ _ _ _ (by simp)) rfl (cel_inf _) (cel_ok _) ?_
               intro w2 hF2 hn2
               have J2 : RI w w2 (96, y, z, (kn : Int)) d pc a x mem zerL := ⟨But.blk' hn2 (kd.alloc _) (by omega), But.blk' hn2 (km.alloc _) (by omega), But.blk' hn2 (kz.alloc _) (by omega), hF2, (B0.alloc B0.size _).trans (hn2.below _ (by omega) (by simp; omega))⟩
               have i0 : w2.cell? ⟨w.heap.size + 1 + 1 + 1, 0, none⟩ = some (.int .u16 96) := hF2.cell 0
               clear hF2 hn2 kd km kz B0 c0 q0 q1 q2 q3)
  refine (N _).mono ?_
  rintro e w3 ⟨rfl, b3⟩
  have J3 := J2.below b3
  clear b3 J2 i0 N
  go_wp2_with fail
  refine (SP _).mono ?_
  rintro e w4 ⟨rfl, b4⟩
  have J4 := J3.below b4
  have i3 : w4.cell? ⟨w.heap.size + 1 + 1 + 1, 3, none⟩ = some (.int .u32 ((kn : Int))) := J4.ki.cell 3
  have c0 := (J4.km.cell 0).trans mc_0
  have x0 : w4.cell? ⟨w.heap.size + 1, 2, none⟩ = some (.int .u32 x) := (J4.km.cell 2).trans mc_2
  clear b4 J3 SP
  go_wp2_with (first
    | (refine wpList_load_row rfl 35 (.tmp 5) rfl (w.heap.size + 1) rfl 35 (mcC pc a x mem) (0, 0) _ J4.km.blk Tryd.underlying35 rfl (mc_inf hl) ?_)
    | (refine wpList_store_blk rfl 35 (.tmp 15) (.tmp 41) rfl w4.heap.size _ (mcC pc a x mem) 35 rfl rfl (Blk.new_ _ _ _ rfl) (vm_z19 hl) (mc_inf hl) mc_one ?_
       intro w5 hF5 hn5
       have b5 : Below w4.heap.size w4 w5 := ((Below.refl _ w4).alloc (Nat.le_refl _) _).trans (hn5.below _ (Nat.le_refl _) (by simp))
       have J5 : RJ w w5 w4.heap.size (96, y, z, (kn : Int)) d pc a x mem zerL (mcC pc a x mem) := ⟨J4.below b5, hF5, J4.ki.lt⟩
       have c5 := (J5.j.km.cell 0).trans mc_0
       clear hn5 hF5 b5 c0 x0 i3 J4)
    | (refine wpList_store_fld rfl 3 (.tmp 45) (.tmp 44) rfl w4.heap.size 0 (mcC pc a x mem) 35 _ rfl rfl J5.kt (by rw [mc_size hl]; omega) inf_int rfl rfl ?_
       intro V hF6 hn6
       have J := J5.put hF6 hn6 (mc_s0 ((pc : Int) + 1))
       clear hF6 hn6 J5 c5
       have i0 : V.cell? ⟨w.heap.size + 1 + 1 + 1, 0, none⟩ = some (.int .u16 96) := J.j.ki.cell 0
       have i1 : V.cell? ⟨w.heap.size + 1 + 1 + 1, 1, none⟩ = some (.int .u8 y) := J.j.ki.cell 1
       have i2 : V.cell? ⟨w.heap.size + 1 + 1 + 1, 2, none⟩ = some (.int .u8 z) := J.j.ki.cell 2
       have i3 : V.cell? ⟨w.heap.size + 1 + 1 + 1, 3, none⟩ = some (.int .u32 ((kn : Int))) := J.j.ki.cell 3
       have m1 := (J.j.km.cell 1).trans mc_1
       have m2 := (J.j.km.cell 2).trans mc_2
       have t0 := (J.kt.cell 0).trans mc_0
       have mk := (J.j.km.cell (3 + kn)).trans (mc_3 hl h16)
       rw [HU.out] at mk)
    | (refine wpList_store_fld rfl 23 (.tmp 86) (.tmp 85) rfl w4.heap.size 1 (mcC ((pc : Int) + 1) a x mem) 35 _ rfl rfl J.kt (by rw [mc_size hl]; omega) inf_u32 rfl rfl ?_
       intro V2 hF7 hn7
       have J2 := J.put hF7 hn7 (t' := mcC ((pc : Int) + 1) u x mem) (mc_s1 u)
       clear hF7 hn7)
    | (refine wpList_load_row rfl 35 (.tmp 15) rfl w4.heap.size rfl 35 (mcC ((pc : Int) + 1) u x mem) (0, 0) _ J2.kt.blk Tryd.underlying35 rfl (mc_inf hl) ?_)
    | (refine wpList_store_blk rfl 35 (.tmp 6) (.tmp 161) rfl (w.heap.size + 1 + 1) _ (mcC ((pc : Int) + 1) u x mem) 35 rfl rfl J2.j.kz (vm_z19 hl) (mc_inf hl) mc_one ?_; intro w9 hw9 hn9))
  refine bodyPost_ret (v := .tuple #[.agg (mcC ((pc : Int) + 1) u x mem), .int .u32 0, .bool false]) (results_row_two rfl _ _ (w.heap.size + 1 + 1) 35 (mcC ((pc : Int) + 1) u x mem) (0, 0) _ rfl hw9.blk Tryd.underlying35 rfl (mc_inf hl) _ _ rfl rfl) rfl ?_
  exact ⟨rfl, (J2.j.out hn9 hw9).old⟩

set_option maxRecDepth 100000 in
set_option maxHeartbeats 4000000 in
theorem rstep_97 (y z k : Int) (A : Option Addr) (m cap : Nat) (f : Nat → Ins) (d : Dat) (hd : DatOk d) (s : VmS) (hok : VmOk s) (w : World) (hA : Ri w w.heap.size A m f) (hcap : m ≤ cap) (hm : m ≤ 64) (hs : s.pc < m) (hf : f s.pc = (97, y, z, k)) (kn : Nat) (hkn : k = (kn : Int)) (h16 : kn < 16) :
    Calls Tryd.prog 16 #[.slice A m cap, datV d, vmV s] w fun e w' => e = .returned (.tuple #[.agg (mcC ((s.pc : Int) + 1) s.a (s.mem.getD kn 0) s.mem), .int .u32 (0), .bool false]) ∧ Below w.heap.size w w' := by
  have hspc : (s.pc : Int) < m := by omega
  have ho := hA.ok s.pc hs
  rw [hf] at ho
  obtain ⟨b, off, rfl, hbl, pI, _⟩ := hA s.pc hs
  rw [hf] at pI
  simp only at pI
  have kd := ((Blk.new w (datC d) 32).alloc (.cells (vmC s) 35)).alloc (.cells zerL 35)
  have km := (Blk.new_ (w.alloc (.cells (datC d) 32)) (vmC s) 35 (n := w.heap.size + 1) (by simp)).alloc (.cells zerL 35)
  have kz := Blk.new_ ((w.alloc (.cells (datC d) 32)).alloc (.cells (vmC s) 35)) zerL 35 (n := w.heap.size + 1 + 1) (by simp)
  have B0 := (((Below.refl w.heap.size w).alloc (Nat.le_refl _) (.cells (datC d) 32)).alloc (by simp) (.cells (vmC s) 35)).alloc (by simp; omega) (.cells zerL 35)
  have c0 := (km.cell 0).trans mc_0
  obtain ⟨q0, q1, q2, q3⟩ := ri_at B0 hbl pI
  have N := fun V => refname_any 97 V (by decide)
  rw [show nameOf 97 = (⟨#[108, 100, 120, 46, 109, 101, 109]⟩, true) by kernel_rfl] at N
  have SP := fun V => split_any [108, 100, 120, 46, 109, 101, 109] (by decide) V
  rw [show headOf [108, 100, 120, 46, 109, 101, 109] = [108, 100, 120] by decide, show tailOf [108, 100, 120, 46, 109, 101, 109] = [109, 101, 109] by decide] at SP
  subst hkn
  have h16' : (kn : Int) < 16 := by omega
  obtain ⟨u, hu⟩ : ∃ u, s.mem.getD kn 0 = u := ⟨_, rfl⟩
  rw [hu]
  obtain ⟨pc, a, x, mem⟩ := s
  have hl : mem.length = 16 := hok.len
  have ha32 : U32 a := hok.a
  have hx32 : U32 x := hok.x
  simp only [vmC] at kd km kz B0 c0 q0 q1 q2 q3
  simp only at hspc hs hf ho
  have HU := Lib.hid (show mem.getD kn 0 = u from hu)
  clear hu
  unfold zerL at kd km kz B0 c0 q0 q1 q2 q3
  have hka : (0 : Int) ≤ pc := by omega
  unfold datV vmV
  simp only [vmC]
  go_enter Tryd.func16, Tryd.ntmps16
  go_wp2_with (refine wpList_store_blk rfl 54 (.tmp 9) (.tmp 23) rfl (w.heap.size + 1 + 1 + 1) _ (celI (97, y, z, (kn : Int))).toArray 54 rfl rfl (Blk.new_ _ _ _ (by simp)) rfl (cel_inf _) (cel_ok _) ?_
               intro w2 hF2 hn2
               have J2 : RI w w2 (97, y, z, (kn : Int)) d pc a x mem zerL := ⟨But.blk' hn2 (kd.alloc _) (by omega), But.blk' hn2 (km.alloc _) (by omega), But.blk' hn2 (kz.alloc _) (by omega), hF2, (B0.alloc B0.size _).trans (hn2.below _ (by omega) (by simp; omega))⟩
               have i0 : w2.cell? ⟨w.heap.size + 1 + 1 + 1, 0, none⟩ = some (.int .u16 97) := hF2.cell 0
               clear hF2 hn2 kd km kz B0 c0 q0 q1 q2 q3)
  refine (N _).mono ?_
  rintro e w3 ⟨rfl, b3⟩
  have J3 := J2.below b3
  clear b3 J2 i0 N
  go_wp2_with fail
  refine (SP _).mono ?_
  rintro e w4 ⟨rfl, b4⟩
  have J4 := J3.below b4
  have i3 : w4.cell? ⟨w.heap.size + 1 + 1 + 1, 3, none⟩ = some (.int .u32 ((kn : Int))) := J4.ki.cell 3
  have c0 := (J4.km.cell 0).trans mc_0
  have x0 : w4.cell? ⟨w.heap.size + 1, 2, none⟩ = some (.int .u32 x) := (J4.km.cell 2).trans mc_2
  clear b4 J3 SP
  go_wp2_with (first
    | (refine wpList_load_row rfl 35 (.tmp 5) rfl (w.heap.size + 1) rfl 35 (mcC pc a x mem) (0, 0) _ J4.km.blk Tryd.underlying35 rfl (mc_inf hl) ?_)
    | (refine wpList_store_blk rfl 35 (.tmp 15) (.tmp 41) rfl w4.heap.size _ (mcC pc a x mem) 35 rfl rfl (Blk.new_ _ _ _ rfl) (vm_z19 hl) (mc_inf hl) mc_one ?_
       intro w5 hF5 hn5
       have b5 : Below w4.heap.size w4 w5 := ((Below.refl _ w4).alloc (Nat.le_refl _) _).trans (hn5.below _ (Nat.le_refl _) (by simp))
       have J5 : RJ w w5 w4.heap.size (97, y, z, (kn : Int)) d pc a x mem zerL (mcC pc a x mem) := ⟨J4.below b5, hF5, J4.ki.lt⟩
       have c5 := (J5.j.km.cell 0).trans mc_0
       clear hn5 hF5 b5 c0 x0 i3 J4)
    | (refine wpList_store_fld rfl 3 (.tmp 45) (.tmp 44) rfl w4.heap.size 0 (mcC pc a x mem) 35 _ rfl rfl J5.kt (by rw [mc_size hl]; omega) inf_int rfl rfl ?_
       intro V hF6 hn6
       have J := J5.put hF6 hn6 (mc_s0 ((pc : Int) + 1))
       clear hF6 hn6 J5 c5
       have i0 : V.cell? ⟨w.heap.size + 1 + 1 + 1, 0, none⟩ = some (.int .u16 97) := J.j.ki.cell 0
       have i1 : V.cell? ⟨w.heap.size + 1 + 1 + 1, 1, none⟩ = some (.int .u8 y) := J.j.ki.cell 1
       have i2 : V.cell? ⟨w.heap.size + 1 + 1 + 1, 2, none⟩ = some (.int .u8 z) := J.j.ki.cell 2
       have i3 : V.cell? ⟨w.heap.size + 1 + 1 + 1, 3, none⟩ = some (.int .u32 ((kn : Int))) := J.j.ki.cell 3
       have m1 := (J.j.km.cell 1).trans mc_1
       have m2 := (J.j.km.cell 2).trans mc_2
       have t0 := (J.kt.cell 0).trans mc_0
       have mk := (J.j.km.cell (3 + kn)).trans (mc_3 hl h16)
       rw [HU.out] at mk)
    | (refine wpList_store_fld rfl 23 (.tmp 90) (.tmp 89) rfl w4.heap.size 2 (mcC ((pc : Int) + 1) a x mem) 35 _ rfl rfl J.kt (by rw [mc_size hl]; omega) inf_u32 rfl rfl ?_
       intro V2 hF7 hn7
       have J2 := J.put hF7 hn7 (t' := mcC ((pc : Int) + 1) a u mem) (mc_s2 u)
       clear hF7 hn7)
    | (refine wpList_load_row rfl 35 (.tmp 15) rfl w4.heap.size rfl 35 (mcC ((pc : Int) + 1) a u mem) (0, 0) _ J2.kt.blk Tryd.underlying35 rfl (mc_inf hl) ?_)
    | (refine wpList_store_blk rfl 35 (.tmp 6) (.tmp 161) rfl (w.heap.size + 1 + 1) _ (mcC ((pc : Int) + 1) a u mem) 35 rfl rfl J2.j.kz (vm_z19 hl) (mc_inf hl) mc_one ?_; intro w9 hw9 hn9))
  refine bodyPost_ret (v := .tuple #[.agg (mcC ((pc : Int) + 1) a u mem), .int .u32 0, .bool false]) (results_row_two rfl _ _ (w.heap.size + 1 + 1) 35 (mcC ((pc : Int) + 1) a u mem) (0, 0) _ rfl hw9.blk Tryd.underlying35 rfl (mc_inf hl) _ _ rfl rfl) rfl ?_
  exact ⟨rfl, (J2.j.out hn9 hw9).old⟩

set_option maxRecDepth 100000 in
set_option maxHeartbeats 4000000 in
theorem rstep_128 (y z k : Int) (A : Option Addr) (m cap : Nat) (f : Nat → Ins) (d : Dat) (hd : DatOk d) (s : VmS) (hok : VmOk s) (w : World) (hA : Ri w w.heap.size A m f) (hcap : m ≤ cap) (hm : m ≤ 64) (hs : s.pc < m) (hf : f s.pc = (128, y, z, k)) :
    Calls Tryd.prog 16 #[.slice A m cap, datV d, vmV s] w fun e w' => e = .returned (.tuple #[.agg (mcC ((s.pc : Int) + 1) (64) s.x s.mem), .int .u32 (0), .bool false]) ∧ Below w.heap.size w w' := by
  have hspc : (s.pc : Int) < m := by omega
  have ho := hA.ok s.pc hs
  rw [hf] at ho
  obtain ⟨b, off, rfl, hbl, pI, _⟩ := hA s.pc hs
  rw [hf] at pI
  simp only at pI
  have kd := ((Blk.new w (datC d) 32).alloc (.cells (vmC s) 35)).alloc (.cells zerL 35)
  have km := (Blk.new_ (w.alloc (.cells (datC d) 32)) (vmC s) 35 (n := w.heap.size + 1) (by simp)).alloc (.cells zerL 35)
  have kz := Blk.new_ ((w.alloc (.cells (datC d) 32)).alloc (.cells (vmC s) 35)) zerL 35 (n := w.heap.size + 1 + 1) (by simp)
  have B0 := (((Below.refl w.heap.size w).alloc (Nat.le_refl _) (.cells (datC d) 32)).alloc (by simp) (.cells (vmC s) 35)).alloc (by simp; omega) (.cells zerL 35)
  have c0 := (km.cell 0).trans mc_0
  obtain ⟨q0, q1, q2, q3⟩ := ri_at B0 hbl pI
  have N := fun V => refname_any 128 V (by decide)
  rw [show nameOf 128 = (⟨#[108, 100, 46, 108, 101, 110]⟩, true) by kernel_rfl] at N
  have SP := fun V => split_any [108, 100, 46, 108, 101, 110] (by decide) V
  rw [show headOf [108, 100, 46, 108, 101, 110] = [108, 100] by decide, show tailOf [108, 100, 46, 108, 101, 110] = [108, 101, 110] by decide] at SP
  obtain ⟨pc, a, x, mem⟩ := s
  have hl : mem.length = 16 := hok.len
  have ha32 : U32 a := hok.a
  have hx32 : U32 x := hok.x
  simp only [vmC] at kd km kz B0 c0 q0 q1 q2 q3
  simp only at hspc hs hf ho
  unfold zerL at kd km kz B0 c0 q0 q1 q2 q3
  have hka : (0 : Int) ≤ pc := by omega
  unfold datV vmV
  simp only [vmC]
  go_enter Tryd.func16, Tryd.ntmps16
  go_wp2_with (refine wpList_store_blk rfl 54 (.tmp 9) (.tmp 23) rfl (w.heap.size + 1 + 1 + 1) _ (celI (128, y, z, k)).toArray 54 rfl rfl (Blk.new_ _ _ _ (by simp)) rfl (cel_inf _) (cel_ok _) ?_
               intro w2 hF2 hn2
               have J2 : RI w w2 (128, y, z, k) d pc a x mem zerL := ⟨But.blk' hn2 (kd.alloc _) (by omega), But.blk' hn2 (km.alloc _) (by omega), But.blk' hn2 (kz.alloc _) (by omega), hF2, (B0.alloc B0.size _).trans (hn2.below _ (by omega) (by simp; omega))⟩
               have i0 : w2.cell? ⟨w.heap.size + 1 + 1 + 1, 0, none⟩ = some (.int .u16 128) := hF2.cell 0
               clear hF2 hn2 kd km kz B0 c0 q0 q1 q2 q3)
  refine (N _).mono ?_
  rintro e w3 ⟨rfl, b3⟩
  have J3 := J2.below b3
  clear b3 J2 i0 N
  go_wp2_with fail
  refine (SP _).mono ?_
  rintro e w4 ⟨rfl, b4⟩
  have J4 := J3.below b4
  have i3 : w4.cell? ⟨w.heap.size + 1 + 1 + 1, 3, none⟩ = some (.int .u32 (k)) := J4.ki.cell 3
  have c0 := (J4.km.cell 0).trans mc_0
  have x0 : w4.cell? ⟨w.heap.size + 1, 2, none⟩ = some (.int .u32 x) := (J4.km.cell 2).trans mc_2
  clear b4 J3 SP
  go_wp2_with (first
    | (refine wpList_load_row rfl 35 (.tmp 5) rfl (w.heap.size + 1) rfl 35 (mcC pc a x mem) (0, 0) _ J4.km.blk Tryd.underlying35 rfl (mc_inf hl) ?_)
    | (refine wpList_store_blk rfl 35 (.tmp 15) (.tmp 41) rfl w4.heap.size _ (mcC pc a x mem) 35 rfl rfl (Blk.new_ _ _ _ rfl) (vm_z19 hl) (mc_inf hl) mc_one ?_
       intro w5 hF5 hn5
       have b5 : Below w4.heap.size w4 w5 := ((Below.refl _ w4).alloc (Nat.le_refl _) _).trans (hn5.below _ (Nat.le_refl _) (by simp))
       have J5 : RJ w w5 w4.heap.size (128, y, z, k) d pc a x mem zerL (mcC pc a x mem) := ⟨J4.below b5, hF5, J4.ki.lt⟩
       have c5 := (J5.j.km.cell 0).trans mc_0
       clear hn5 hF5 b5 c0 x0 i3 J4)
    | (refine wpList_store_fld rfl 3 (.tmp 45) (.tmp 44) rfl w4.heap.size 0 (mcC pc a x mem) 35 _ rfl rfl J5.kt (by rw [mc_size hl]; omega) inf_int rfl rfl ?_
       intro V hF6 hn6
       have J := J5.put hF6 hn6 (mc_s0 ((pc : Int) + 1))
       clear hF6 hn6 J5 c5
       have i0 : V.cell? ⟨w.heap.size + 1 + 1 + 1, 0, none⟩ = some (.int .u16 128) := J.j.ki.cell 0
       have i1 : V.cell? ⟨w.heap.size + 1 + 1 + 1, 1, none⟩ = some (.int .u8 y) := J.j.ki.cell 1
       have i2 : V.cell? ⟨w.heap.size + 1 + 1 + 1, 2, none⟩ = some (.int .u8 z) := J.j.ki.cell 2
       have i3 : V.cell? ⟨w.heap.size + 1 + 1 + 1, 3, none⟩ = some (.int .u32 (k)) := J.j.ki.cell 3
       have m1 := (J.j.km.cell 1).trans mc_1
       have m2 := (J.j.km.cell 2).trans mc_2
       have t0 := (J.kt.cell 0).trans mc_0)
    | (refine wpList_store_fld rfl 23 (.tmp 86) (.tmp 85) rfl w4.heap.size 1 (mcC ((pc : Int) + 1) a x mem) 35 _ rfl rfl J.kt (by rw [mc_size hl]; omega) inf_u32 rfl rfl ?_
       intro V2 hF7 hn7
       have J2 := J.put hF7 hn7 (t' := mcC ((pc : Int) + 1) 64 x mem) (mc_s1 64)
       clear hF7 hn7)
    | (refine wpList_load_row rfl 35 (.tmp 15) rfl w4.heap.size rfl 35 (mcC ((pc : Int) + 1) 64 x mem) (0, 0) _ J2.kt.blk Tryd.underlying35 rfl (mc_inf hl) ?_)
    | (refine wpList_store_blk rfl 35 (.tmp 6) (.tmp 161) rfl (w.heap.size + 1 + 1) _ (mcC ((pc : Int) + 1) 64 x mem) 35 rfl rfl J2.j.kz (vm_z19 hl) (mc_inf hl) mc_one ?_; intro w9 hw9 hn9))
  refine bodyPost_ret (v := .tuple #[.agg (mcC ((pc : Int) + 1) 64 x mem), .int .u32 0, .bool false]) (results_row_two rfl _ _ (w.heap.size + 1 + 1) 35 (mcC ((pc : Int) + 1) 64 x mem) (0, 0) _ rfl hw9.blk Tryd.underlying35 rfl (mc_inf hl) _ _ rfl rfl) rfl ?_
  exact ⟨rfl, (J2.j.out hn9 hw9).old⟩

set_option maxRecDepth 100000 in
set_option maxHeartbeats 4000000 in
theorem rstep_129 (y z k : Int) (A : Option Addr) (m cap : Nat) (f : Nat → Ins) (d : Dat) (hd : DatOk d) (s : VmS) (hok : VmOk s) (w : World) (hA : Ri w w.heap.size A m f) (hcap : m ≤ cap) (hm : m ≤ 64) (hs : s.pc < m) (hf : f s.pc = (129, y, z, k)) :
    Calls Tryd.prog 16 #[.slice A m cap, datV d, vmV s] w fun e w' => e = .returned (.tuple #[.agg (mcC ((s.pc : Int) + 1) s.a (64) s.mem), .int .u32 (0), .bool false]) ∧ Below w.heap.size w w' := by
  have hspc : (s.pc : Int) < m := by omega
  have ho := hA.ok s.pc hs
  rw [hf] at ho
  obtain ⟨b, off, rfl, hbl, pI, _⟩ := hA s.pc hs
  rw [hf] at pI
  simp only at pI
  have kd := ((Blk.new w (datC d) 32).alloc (.cells (vmC s) 35)).alloc (.cells zerL 35)
  have km := (Blk.new_ (w.alloc (.cells (datC d) 32)) (vmC s) 35 (n := w.heap.size + 1) (by simp)).alloc (.cells zerL 35)
  have kz := Blk.new_ ((w.alloc (.cells (datC d) 32)).alloc (.cells (vmC s) 35)) zerL 35 (n := w.heap.size + 1 + 1) (by simp)
  have B0 := (((Below.refl w.heap.size w).alloc (Nat.le_refl _) (.cells (datC d) 32)).alloc (by simp) (.cells (vmC s) 35)).alloc (by simp; omega) (.cells zerL 35)
  have c0 := (km.cell 0).trans mc_0
  obtain ⟨q0, q1, q2, q3⟩ := ri_at B0 hbl pI
  have N := fun V => refname_any 129 V (by decide)
  rw [show nameOf 129 = (⟨#[108, 100, 120, 46, 108, 101, 110]⟩, true) by kernel_rfl] at N
  have SP := fun V => split_any [108, 100, 120, 46, 108, 101, 110] (by decide) V
  rw [show headOf [108, 100, 120, 46, 108, 101, 110] = [108, 100, 120] by decide, show tailOf [108, 100, 120, 46, 108, 101, 110] = [108, 101, 110] by decide] at SP
  obtain ⟨pc, a, x, mem⟩ := s
  have hl : mem.length = 16 := hok.len
  have ha32 : U32 a := hok.a
  have hx32 : U32 x := hok.x
  simp only [vmC] at kd km kz B0 c0 q0 q1 q2 q3
  simp only at hspc hs hf ho
  unfold zerL at kd km kz B0 c0 q0 q1 q2 q3
  have hka : (0 : Int) ≤ pc := by omega
  unfold datV vmV
  simp only [vmC]
  go_enter Tryd.func16, Tryd.ntmps16
  go_wp2_with (refine wpList_store_blk rfl 54 (.tmp 9) (.tmp 23) rfl (w.heap.size + 1 + 1 + 1) _ (celI (129, y, z, k)).toArray 54 rfl rfl (Blk.new_ _ _ _ (by simp)) rfl (cel_inf _) (cel_ok _) ?_
               intro w2 hF2 hn2
               have J2 : RI w w2 (129, y, z, k) d pc a x mem zerL := ⟨But.blk' hn2 (kd.alloc _) (by omega), But.blk' hn2 (km.alloc _) (by omega), But.blk' hn2 (kz.alloc _) (by omega), hF2, (B0.alloc B0.size _).trans (hn2.below _ (by omega) (by simp; omega))⟩
               have i0 : w2.cell? ⟨w.heap.size + 1 + 1 + 1, 0, none⟩ = some (.int .u16 129) := hF2.cell 0
               clear hF2 hn2 kd km kz B0 c0 q0 q1 q2 q3)
  refine (N _).mono ?_
  rintro e w3 ⟨rfl, b3⟩
  have J3 := J2.below b3
  clear b3 J2 i0 N
  go_wp2_with fail
  refine (SP _).mono ?_
  rintro e w4 ⟨rfl, b4⟩
  have J4 := J3.below b4
  have i3 : w4.cell? ⟨w.heap.size + 1 + 1 + 1, 3, none⟩ = some (.int .u32 (k)) := J4.ki.cell 3
  have c0 := (J4.km.cell 0).trans mc_0
  have x0 : w4.cell? ⟨w.heap.size + 1, 2, none⟩ = some (.int .u32 x) := (J4.km.cell 2).trans mc_2
  clear b4 J3 SP
  go_wp2_with (first
    | (refine wpList_load_row rfl 35 (.tmp 5) rfl (w.heap.size + 1) rfl 35 (mcC pc a x mem) (0, 0) _ J4.km.blk Tryd.underlying35 rfl (mc_inf hl) ?_)
    | (refine wpList_store_blk rfl 35 (.tmp 15) (.tmp 41) rfl w4.heap.size _ (mcC pc a x mem) 35 rfl rfl (Blk.new_ _ _ _ rfl) (vm_z19 hl) (mc_inf hl) mc_one ?_
       intro w5 hF5 hn5
       have b5 : Below w4.heap.size w4 w5 := ((Below.refl _ w4).alloc (Nat.le_refl _) _).trans (hn5.below _ (Nat.le_refl _) (by simp))
       have J5 : RJ w w5 w4.heap.size (129, y, z, k) d pc a x mem zerL (mcC pc a x mem) := ⟨J4.below b5, hF5, J4.ki.lt⟩
       have c5 := (J5.j.km.cell 0).trans mc_0
       clear hn5 hF5 b5 c0 x0 i3 J4)
    | (refine wpList_store_fld rfl 3 (.tmp 45) (.tmp 44) rfl w4.heap.size 0 (mcC pc a x mem) 35 _ rfl rfl J5.kt (by rw [mc_size hl]; omega) inf_int rfl rfl ?_
       intro V hF6 hn6
       have J := J5.put hF6 hn6 (mc_s0 ((pc : Int) + 1))
       clear hF6 hn6 J5 c5
       have i0 : V.cell? ⟨w.heap.size + 1 + 1 + 1, 0, none⟩ = some (.int .u16 129) := J.j.ki.cell 0
       have i1 : V.cell? ⟨w.heap.size + 1 + 1 + 1, 1, none⟩ = some (.int .u8 y) := J.j.ki.cell 1
       have i2 : V.cell? ⟨w.heap.size + 1 + 1 + 1, 2, none⟩ = some (.int .u8 z) := J.j.ki.cell 2
       have i3 : V.cell? ⟨w.heap.size + 1 + 1 + 1, 3, none⟩ = some (.int .u32 (k)) := J.j.ki.cell 3
       have m1 := (J.j.km.cell 1).trans mc_1
       have m2 := (J.j.km.cell 2).trans mc_2
       have t0 := (J.kt.cell 0).trans mc_0)
    | (refine wpList_store_fld rfl 23 (.tmp 90) (.tmp 89) rfl w4.heap.size 2 (mcC ((pc : Int) + 1) a x mem) 35 _ rfl rfl J.kt (by rw [mc_size hl]; omega) inf_u32 rfl rfl ?_
       intro V2 hF7 hn7
       have J2 := J.put hF7 hn7 (t' := mcC ((pc : Int) + 1) a 64 mem) (mc_s2 64)
       clear hF7 hn7)
    | (refine wpList_load_row rfl 35 (.tmp 15) rfl w4.heap.size rfl 35 (mcC ((pc : Int) + 1) a 64 mem) (0, 0) _ J2.kt.blk Tryd.underlying35 rfl (mc_inf hl) ?_)
    | (refine wpList_store_blk rfl 35 (.tmp 6) (.tmp 161) rfl (w.heap.size + 1 + 1) _ (mcC ((pc : Int) + 1) a 64 mem) 35 rfl rfl J2.j.kz (vm_z19 hl) (mc_inf hl) mc_one ?_; intro w9 hw9 hn9))
  refine bodyPost_ret (v := .tuple #[.agg (mcC ((pc : Int) + 1) a 64 mem), .int .u32 0, .bool false]) (results_row_two rfl _ _ (w.heap.size + 1 + 1) 35 (mcC ((pc : Int) + 1) a 64 mem) (0, 0) _ rfl hw9.blk Tryd.underlying35 rfl (mc_inf hl) _ _ rfl rfl) rfl ?_
  exact ⟨rfl, (J2.j.out hn9 hw9).old⟩

set_option maxRecDepth 100000 in
set_option maxHeartbeats 4000000 in
theorem rstep_132 (y z k : Int) (A : Option Addr) (m cap : Nat) (f : Nat → Ins) (d : Dat) (hd : DatOk d) (s : VmS) (hok : VmOk s) (w : World) (hA : Ri w w.heap.size A m f) (hcap : m ≤ cap) (hm : m ≤ 64) (hs : s.pc < m) (hf : f s.pc = (132, y, z, k)) (hv2 : aluB 132 s.a k = true) :
    Calls Tryd.prog 16 #[.slice A m cap, datV d, vmV s] w fun e w' => e = .returned (.tuple #[.agg (mcC ((s.pc : Int) + 1) (aluV 132 s.a k) s.x s.mem), .int .u32 (0), .bool false]) ∧ Below w.heap.size w w' := by
  have hspc : (s.pc : Int) < m := by omega
  have ho := hA.ok s.pc hs
  rw [hf] at ho
  obtain ⟨b, off, rfl, hbl, pI, _⟩ := hA s.pc hs
  rw [hf] at pI
  simp only at pI
  have kd := ((Blk.new w (datC d) 32).alloc (.cells (vmC s) 35)).alloc (.cells zerL 35)
  have km := (Blk.new_ (w.alloc (.cells (datC d) 32)) (vmC s) 35 (n := w.heap.size + 1) (by simp)).alloc (.cells zerL 35)
  have kz := Blk.new_ ((w.alloc (.cells (datC d) 32)).alloc (.cells (vmC s) 35)) zerL 35 (n := w.heap.size + 1 + 1) (by simp)
  have B0 := (((Below.refl w.heap.size w).alloc (Nat.le_refl _) (.cells (datC d) 32)).alloc (by simp) (.cells (vmC s) 35)).alloc (by simp; omega) (.cells zerL 35)
  have c0 := (km.cell 0).trans mc_0
  obtain ⟨q0, q1, q2, q3⟩ := ri_at B0 hbl pI
  have N := fun V => refname_any 132 V (by decide)
  rw [show nameOf 132 = (⟨#[110, 101, 103]⟩, true) by kernel_rfl] at N
  have SP := fun V => split_any [110, 101, 103] (by decide) V
  rw [show headOf [110, 101, 103] = [110, 101, 103] by decide, show tailOf [110, 101, 103] = [] by decide] at SP
  have AL := fun V => refalu_any 132 s.a k (by decide) (by decide) hok.a ⟨ho.k0, ho.k1⟩ V
  obtain ⟨v, hv⟩ : ∃ v, aluV 132 s.a k = v := ⟨_, rfl⟩
  rw [hv, hv2] at AL
  rw [hv]
  clear hv hv2
  obtain ⟨pc, a, x, mem⟩ := s
  have hl : mem.length = 16 := hok.len
  have ha32 : U32 a := hok.a
  have hx32 : U32 x := hok.x
  simp only [vmC] at kd km kz B0 c0 q0 q1 q2 q3
  simp only at hspc hs hf ho
  simp only at AL
  unfold zerL at kd km kz B0 c0 q0 q1 q2 q3
  have hka : (0 : Int) ≤ pc := by omega
  unfold datV vmV
  simp only [vmC]
  go_enter Tryd.func16, Tryd.ntmps16
  go_wp2_with (refine wpList_store_blk rfl 54 (.tmp 9) (.tmp 23) rfl (w.heap.size + 1 + 1 + 1) _ (celI (132, y, z, k)).toArray 54 rfl rfl (Blk.new_ _ _ _ (by simp)) rfl (cel_inf _) (cel_ok _) ?_
               intro w2 hF2 hn2
               have J2 : RI w w2 (132, y, z, k) d pc a x mem zerL := ⟨But.blk' hn2 (kd.alloc _) (by omega), But.blk' hn2 (km.alloc _) (by omega), But.blk' hn2 (kz.alloc _) (by omega), hF2, (B0.alloc B0.size _).trans (hn2.below _ (by omega) (by simp; omega))⟩
               have i0 : w2.cell? ⟨w.heap.size + 1 + 1 + 1, 0, none⟩ = some (.int .u16 132) := hF2.cell 0
               clear hF2 hn2 kd km kz B0 c0 q0 q1 q2 q3)
  refine (N _).mono ?_
  rintro e w3 ⟨rfl, b3⟩
  have J3 := J2.below b3
  clear b3 J2 i0 N
  go_wp2_with fail
  refine (SP _).mono ?_
  rintro e w4 ⟨rfl, b4⟩
  have J4 := J3.below b4
  have i3 : w4.cell? ⟨w.heap.size + 1 + 1 + 1, 3, none⟩ = some (.int .u32 (k)) := J4.ki.cell 3
  have c0 := (J4.km.cell 0).trans mc_0
  have x0 : w4.cell? ⟨w.heap.size + 1, 2, none⟩ = some (.int .u32 x) := (J4.km.cell 2).trans mc_2
  clear b4 J3 SP
  go_wp2_with (first
    | (refine wpList_load_row rfl 35 (.tmp 5) rfl (w.heap.size + 1) rfl 35 (mcC pc a x mem) (0, 0) _ J4.km.blk Tryd.underlying35 rfl (mc_inf hl) ?_)
    | (refine wpList_store_blk rfl 35 (.tmp 15) (.tmp 41) rfl w4.heap.size _ (mcC pc a x mem) 35 rfl rfl (Blk.new_ _ _ _ rfl) (vm_z19 hl) (mc_inf hl) mc_one ?_
       intro w5 hF5 hn5
       have b5 : Below w4.heap.size w4 w5 := ((Below.refl _ w4).alloc (Nat.le_refl _) _).trans (hn5.below _ (Nat.le_refl _) (by simp))
       have J5 : RJ w w5 w4.heap.size (132, y, z, k) d pc a x mem zerL (mcC pc a x mem) := ⟨J4.below b5, hF5, J4.ki.lt⟩
       have c5 := (J5.j.km.cell 0).trans mc_0
       clear hn5 hF5 b5 c0 x0 i3 J4)
    | (refine wpList_store_fld rfl 3 (.tmp 45) (.tmp 44) rfl w4.heap.size 0 (mcC pc a x mem) 35 _ rfl rfl J5.kt (by rw [mc_size hl]; omega) inf_int rfl rfl ?_
       intro V hF6 hn6
       have J := J5.put hF6 hn6 (mc_s0 ((pc : Int) + 1))
       clear hF6 hn6 J5 c5
       have i0 : V.cell? ⟨w.heap.size + 1 + 1 + 1, 0, none⟩ = some (.int .u16 132) := J.j.ki.cell 0
       have i1 : V.cell? ⟨w.heap.size + 1 + 1 + 1, 1, none⟩ = some (.int .u8 y) := J.j.ki.cell 1
       have i2 : V.cell? ⟨w.heap.size + 1 + 1 + 1, 2, none⟩ = some (.int .u8 z) := J.j.ki.cell 2
       have i3 : V.cell? ⟨w.heap.size + 1 + 1 + 1, 3, none⟩ = some (.int .u32 (k)) := J.j.ki.cell 3
       have m1 := (J.j.km.cell 1).trans mc_1
       have m2 := (J.j.km.cell 2).trans mc_2
       have t0 := (J.kt.cell 0).trans mc_0))
  refine (AL _).mono ?_
  rintro e w6 ⟨rfl, hw6⟩
  subst w6
  clear AL
  go_wp2_with (first
    | (refine wpList_store_fld rfl 23 (.tmp 82) (.tmp 81) rfl w4.heap.size 1 (mcC ((pc : Int) + 1) a x mem) 35 _ rfl rfl J.kt (by rw [mc_size hl]; omega) inf_u32 rfl rfl ?_
       intro V2 hF7 hn7
       have J2 := J.put hF7 hn7 (t' := mcC ((pc : Int) + 1) v x mem) (mc_s1 v)
       clear hF7 hn7)
    | (refine wpList_load_row rfl 35 (.tmp 15) rfl w4.heap.size rfl 35 (mcC ((pc : Int) + 1) v x mem) (0, 0) _ J2.kt.blk Tryd.underlying35 rfl (mc_inf hl) ?_)
    | (refine wpList_store_blk rfl 35 (.tmp 6) (.tmp 161) rfl (w.heap.size + 1 + 1) _ (mcC ((pc : Int) + 1) v x mem) 35 rfl rfl J2.j.kz (vm_z19 hl) (mc_inf hl) mc_one ?_; intro w9 hw9 hn9))
  refine bodyPost_ret (v := .tuple #[.agg (mcC ((pc : Int) + 1) v x mem), .int .u32 0, .bool false]) (results_row_two rfl _ _ (w.heap.size + 1 + 1) 35 (mcC ((pc : Int) + 1) v x mem) (0, 0) _ rfl hw9.blk Tryd.underlying35 rfl (mc_inf hl) _ _ rfl rfl) rfl ?_
  exact ⟨rfl, (J2.j.out hn9 hw9).old⟩

set_option maxRecDepth 100000 in
set_option maxHeartbeats 4000000 in
theorem rstep_135 (y z k : Int) (A : Option Addr) (m cap : Nat) (f : Nat → Ins) (d : Dat) (hd : DatOk d) (s : VmS) (hok : VmOk s) (w : World) (hA : Ri w w.heap.size A m f) (hcap : m ≤ cap) (hm : m ≤ 64) (hs : s.pc < m) (hf : f s.pc = (135, y, z, k)) :
    Calls Tryd.prog 16 #[.slice A m cap, datV d, vmV s] w fun e w' => e = .returned (.tuple #[.agg (mcC ((s.pc : Int) + 1) s.x s.x s.mem), .int .u32 (0), .bool false]) ∧ Below w.heap.size w w' := by
  have hspc : (s.pc : Int) < m := by omega
  have ho := hA.ok s.pc hs
  rw [hf] at ho
  obtain ⟨b, off, rfl, hbl, pI, _⟩ := hA s.pc hs
  rw [hf] at pI
  simp only at pI
  have kd := ((Blk.new w (datC d) 32).alloc (.cells (vmC s) 35)).alloc (.cells zerL 35)
  have km := (Blk.new_ (w.alloc (.cells (datC d) 32)) (vmC s) 35 (n := w.heap.size + 1) (by simp)).alloc (.cells zerL 35)
  have kz := Blk.new_ ((w.alloc (.cells (datC d) 32)).alloc (.cells (vmC s) 35)) zerL 35 (n := w.heap.size + 1 + 1) (by simp)
  have B0 := (((Below.refl w.heap.size w).alloc (Nat.le_refl _) (.cells (datC d) 32)).alloc (by simp) (.cells (vmC s) 35)).alloc (by simp; omega) (.cells zerL 35)
  have c0 := (km.cell 0).trans mc_0
  obtain ⟨q0, q1, q2, q3⟩ := ri_at B0 hbl pI
  have N := fun V => refname_any 135 V (by decide)
  rw [show nameOf 135 = (⟨#[116, 120, 97]⟩, true) by kernel_rfl] at N
  have SP := fun V => split_any [116, 120, 97] (by decide) V
  rw [show headOf [116, 120, 97] = [116, 120, 97] by decide, show tailOf [116, 120, 97] = [] by decide] at SP
  obtain ⟨pc, a, x, mem⟩ := s
  have hl : mem.length = 16 := hok.len
  have ha32 : U32 a := hok.a
  have hx32 : U32 x := hok.x
  simp only [vmC] at kd km kz B0 c0 q0 q1 q2 q3
  simp only at hspc hs hf ho
  unfold zerL at kd km kz B0 c0 q0 q1 q2 q3
  have hka : (0 : Int) ≤ pc := by omega
  unfold datV vmV
  simp only [vmC]
  go_enter Tryd.func16, Tryd.ntmps16
  go_wp2_with (refine wpList_store_blk rfl 54 (.tmp 9) (.tmp 23) rfl (w.heap.size + 1 + 1 + 1) _ (celI (135, y, z, k)).toArray 54 rfl rfl (Blk.new_ _ _ _ (by simp)) rfl (cel_inf _) (cel_ok _) ?_
               intro w2 hF2 hn2
               have J2 : RI w w2 (135, y, z, k) d pc a x mem zerL := ⟨But.blk' hn2 (kd.alloc _) (by omega), But.blk' hn2 (km.alloc _) (by omega), But.blk' hn2 (kz.alloc _) (by omega), hF2, (B0.alloc B0.size _).trans (hn2.below _ (by omega) (by simp; omega))⟩
               have i0 : w2.cell? ⟨w.heap.size + 1 + 1 + 1, 0, none⟩ = some (.int .u16 135) := hF2.cell 0
               clear hF2 hn2 kd km kz B0 c0 q0 q1 q2 q3)
  refine (N _).mono ?_
  rintro e w3 ⟨rfl, b3⟩
  have J3 := J2.below b3
  clear b3 J2 i0 N
  go_wp2_with fail
  refine (SP _).mono ?_
  rintro e w4 ⟨rfl, b4⟩
  have J4 := J3.below b4
  have i3 : w4.cell? ⟨w.heap.size + 1 + 1 + 1, 3, none⟩ = some (.int .u32 (k)) := J4.ki.cell 3
  have c0 := (J4.km.cell 0).trans mc_0
  have x0 : w4.cell? ⟨w.heap.size + 1, 2, none⟩ = some (.int .u32 x) := (J4.km.cell 2).trans mc_2
  clear b4 J3 SP
  go_wp2_with (first
    | (refine wpList_load_row rfl 35 (.tmp 5) rfl (w.heap.size + 1) rfl 35 (mcC pc a x mem) (0, 0) _ J4.km.blk Tryd.underlying35 rfl (mc_inf hl) ?_)
    | (refine wpList_store_blk rfl 35 (.tmp 15) (.tmp 41) rfl w4.heap.size _ (mcC pc a x mem) 35 rfl rfl (Blk.new_ _ _ _ rfl) (vm_z19 hl) (mc_inf hl) mc_one ?_
       intro w5 hF5 hn5
       have b5 : Below w4.heap.size w4 w5 := ((Below.refl _ w4).alloc (Nat.le_refl _) _).trans (hn5.below _ (Nat.le_refl _) (by simp))
       have J5 : RJ w w5 w4.heap.size (135, y, z, k) d pc a x mem zerL (mcC pc a x mem) := ⟨J4.below b5, hF5, J4.ki.lt⟩
       have c5 := (J5.j.km.cell 0).trans mc_0
       clear hn5 hF5 b5 c0 x0 i3 J4)
    | (refine wpList_store_fld rfl 3 (.tmp 45) (.tmp 44) rfl w4.heap.size 0 (mcC pc a x mem) 35 _ rfl rfl J5.kt (by rw [mc_size hl]; omega) inf_int rfl rfl ?_
       intro V hF6 hn6
       have J := J5.put hF6 hn6 (mc_s0 ((pc : Int) + 1))
       clear hF6 hn6 J5 c5
       have i0 : V.cell? ⟨w.heap.size + 1 + 1 + 1, 0, none⟩ = some (.int .u16 135) := J.j.ki.cell 0
       have i1 : V.cell? ⟨w.heap.size + 1 + 1 + 1, 1, none⟩ = some (.int .u8 y) := J.j.ki.cell 1
       have i2 : V.cell? ⟨w.heap.size + 1 + 1 + 1, 2, none⟩ = some (.int .u8 z) := J.j.ki.cell 2
       have i3 : V.cell? ⟨w.heap.size + 1 + 1 + 1, 3, none⟩ = some (.int .u32 (k)) := J.j.ki.cell 3
       have m1 := (J.j.km.cell 1).trans mc_1
       have m2 := (J.j.km.cell 2).trans mc_2
       have t0 := (J.kt.cell 0).trans mc_0)
    | (refine wpList_store_fld rfl 23 (.tmp 116) (.tmp 115) rfl w4.heap.size 1 (mcC ((pc : Int) + 1) a x mem) 35 _ rfl rfl J.kt (by rw [mc_size hl]; omega) inf_u32 rfl rfl ?_
       intro V2 hF7 hn7
       have J2 := J.put hF7 hn7 (t' := mcC ((pc : Int) + 1) x x mem) (mc_s1 x)
       clear hF7 hn7)
    | (refine wpList_load_row rfl 35 (.tmp 15) rfl w4.heap.size rfl 35 (mcC ((pc : Int) + 1) x x mem) (0, 0) _ J2.kt.blk Tryd.underlying35 rfl (mc_inf hl) ?_)
    | (refine wpList_store_blk rfl 35 (.tmp 6) (.tmp 161) rfl (w.heap.size + 1 + 1) _ (mcC ((pc : Int) + 1) x x mem) 35 rfl rfl J2.j.kz (vm_z19 hl) (mc_inf hl) mc_one ?_; intro w9 hw9 hn9))
  refine bodyPost_ret (v := .tuple #[.agg (mcC ((pc : Int) + 1) x x mem), .int .u32 0, .bool false]) (results_row_two rfl _ _ (w.heap.size + 1 + 1) 35 (mcC ((pc : Int) + 1) x x mem) (0, 0) _ rfl hw9.blk Tryd.underlying35 rfl (mc_inf hl) _ _ rfl rfl) rfl ?_
  exact ⟨rfl, (J2.j.out hn9 hw9).old⟩

set_option maxRecDepth 100000 in
set_option maxHeartbeats 4000000 in
theorem rstep_60n (y z k : Int) (A : Option Addr) (m cap : Nat) (f : Nat → Ins) (d : Dat) (hd : DatOk d) (s : VmS) (hok : VmOk s) (w : World) (hA : Ri w w.heap.size A m f) (hcap : m ≤ cap) (hm : m ≤ 64) (hs : s.pc < m) (hf : f s.pc = (60, y, z, k)) (hv2 : aluB 60 s.a s.x = false) :
    Calls Tryd.prog 16 #[.slice A m cap, datV d, vmV s] w fun e w' => e = .returned (.tuple #[.agg (mcC s.pc s.a s.x s.mem), .int .u32 (0), .bool true]) ∧ Below w.heap.size w w' := by
  have hspc : (s.pc : Int) < m := by omega
  have ho := hA.ok s.pc hs
  rw [hf] at ho
  obtain ⟨b, off, rfl, hbl, pI, _⟩ := hA s.pc hs
  rw [hf] at pI
  simp only at pI
  have kd := ((Blk.new w (datC d) 32).alloc (.cells (vmC s) 35)).alloc (.cells zerL 35)
  have km := (Blk.new_ (w.alloc (.cells (datC d) 32)) (vmC s) 35 (n := w.heap.size + 1) (by simp)).alloc (.cells zerL 35)
  have kz := Blk.new_ ((w.alloc (.cells (datC d) 32)).alloc (.cells (vmC s) 35)) zerL 35 (n := w.heap.size + 1 + 1) (by simp)
  have B0 := (((Below.refl w.heap.size w).alloc (Nat.le_refl _) (.cells (datC d) 32)).alloc (by simp) (.cells (vmC s) 35)).alloc (by simp; omega) (.cells zerL 35)
  have c0 := (km.cell 0).trans mc_0
  obtain ⟨q0, q1, q2, q3⟩ := ri_at B0 hbl pI
  have N := fun V => refname_any 60 V (by decide)
  rw [show nameOf 60 = (⟨#[100, 105, 118, 46, 120]⟩, true) by kernel_rfl] at N
  have SP := fun V => split_any [100, 105, 118, 46, 120] (by decide) V
  rw [show headOf [100, 105, 118, 46, 120] = [100, 105, 118] by decide, show tailOf [100, 105, 118, 46, 120] = [120] by decide] at SP
  have AL := fun V => refalu_any 60 s.a s.x (by decide) (by decide) hok.a hok.x V
  obtain ⟨v, hv⟩ : ∃ v, aluV 60 s.a s.x = v := ⟨_, rfl⟩
  rw [hv, hv2] at AL
  clear hv hv2
  obtain ⟨pc, a, x, mem⟩ := s
  have hl : mem.length = 16 := hok.len
  have ha32 : U32 a := hok.a
  have hx32 : U32 x := hok.x
  simp only [vmC] at kd km kz B0 c0 q0 q1 q2 q3
  simp only at hspc hs hf ho
  simp only at AL
  unfold zerL at kd km kz B0 c0 q0 q1 q2 q3
  have hka : (0 : Int) ≤ pc := by omega
  unfold datV vmV
  simp only [vmC]
  go_enter Tryd.func16, Tryd.ntmps16
  go_wp2_with (refine wpList_store_blk rfl 54 (.tmp 9) (.tmp 23) rfl (w.heap.size + 1 + 1 + 1) _ (celI (60, y, z, k)).toArray 54 rfl rfl (Blk.new_ _ _ _ (by simp)) rfl (cel_inf _) (cel_ok _) ?_
               intro w2 hF2 hn2
               have J2 : RI w w2 (60, y, z, k) d pc a x mem zerL := ⟨But.blk' hn2 (kd.alloc _) (by omega), But.blk' hn2 (km.alloc _) (by omega), But.blk' hn2 (kz.alloc _) (by omega), hF2, (B0.alloc B0.size _).trans (hn2.below _ (by omega) (by simp; omega))⟩
               have i0 : w2.cell? ⟨w.heap.size + 1 + 1 + 1, 0, none⟩ = some (.int .u16 60) := hF2.cell 0
               clear hF2 hn2 kd km kz B0 c0 q0 q1 q2 q3)
  refine (N _).mono ?_
  rintro e w3 ⟨rfl, b3⟩
  have J3 := J2.below b3
  clear b3 J2 i0 N
  go_wp2_with fail
  refine (SP _).mono ?_
  rintro e w4 ⟨rfl, b4⟩
  have J4 := J3.below b4
  have i3 : w4.cell? ⟨w.heap.size + 1 + 1 + 1, 3, none⟩ = some (.int .u32 (k)) := J4.ki.cell 3
  have c0 := (J4.km.cell 0).trans mc_0
  have x0 : w4.cell? ⟨w.heap.size + 1, 2, none⟩ = some (.int .u32 x) := (J4.km.cell 2).trans mc_2
  clear b4 J3 SP
  go_wp2_with (first
    | (refine wpList_load_row rfl 35 (.tmp 5) rfl (w.heap.size + 1) rfl 35 (mcC pc a x mem) (0, 0) _ J4.km.blk Tryd.underlying35 rfl (mc_inf hl) ?_)
    | (refine wpList_store_blk rfl 35 (.tmp 15) (.tmp 41) rfl w4.heap.size _ (mcC pc a x mem) 35 rfl rfl (Blk.new_ _ _ _ rfl) (vm_z19 hl) (mc_inf hl) mc_one ?_
       intro w5 hF5 hn5
       have b5 : Below w4.heap.size w4 w5 := ((Below.refl _ w4).alloc (Nat.le_refl _) _).trans (hn5.below _ (Nat.le_refl _) (by simp))
       have J5 : RJ w w5 w4.heap.size (60, y, z, k) d pc a x mem zerL (mcC pc a x mem) := ⟨J4.below b5, hF5, J4.ki.lt⟩
       have c5 := (J5.j.km.cell 0).trans mc_0
       clear hn5 hF5 b5 c0 x0 i3 J4)
    | (refine wpList_store_fld rfl 3 (.tmp 45) (.tmp 44) rfl w4.heap.size 0 (mcC pc a x mem) 35 _ rfl rfl J5.kt (by rw [mc_size hl]; omega) inf_int rfl rfl ?_
       intro V hF6 hn6
       have J := J5.put hF6 hn6 (mc_s0 ((pc : Int) + 1))
       clear hF6 hn6 J5 c5
       have i0 : V.cell? ⟨w.heap.size + 1 + 1 + 1, 0, none⟩ = some (.int .u16 60) := J.j.ki.cell 0
       have i1 : V.cell? ⟨w.heap.size + 1 + 1 + 1, 1, none⟩ = some (.int .u8 y) := J.j.ki.cell 1
       have i2 : V.cell? ⟨w.heap.size + 1 + 1 + 1, 2, none⟩ = some (.int .u8 z) := J.j.ki.cell 2
       have i3 : V.cell? ⟨w.heap.size + 1 + 1 + 1, 3, none⟩ = some (.int .u32 (k)) := J.j.ki.cell 3
       have m1 := (J.j.km.cell 1).trans mc_1
       have m2 := (J.j.km.cell 2).trans mc_2
       have t0 := (J.kt.cell 0).trans mc_0))
  refine (AL _).mono ?_
  rintro e w6 ⟨rfl, hw6⟩
  subst w6
  clear AL
  go_wp2_with (first
    | (refine wpList_load_row rfl 35 (.tmp 5) rfl (w.heap.size + 1) rfl 35 (mcC pc a x mem) (0, 0) _ J.j.km.blk Tryd.underlying35 rfl (mc_inf hl) ?_)
    | (refine wpList_store_blk rfl 35 (.tmp 6) (.tmp 80) rfl (w.heap.size + 1 + 1) _ (mcC pc a x mem) 35 rfl rfl J.j.kz (vm_z19 hl) (mc_inf hl) mc_one ?_; intro w9 hw9 hn9))
  refine bodyPost_ret (v := .tuple #[.agg (mcC pc a x mem), .int .u32 0, .bool true]) (results_row_two rfl _ _ (w.heap.size + 1 + 1) 35 (mcC pc a x mem) (0, 0) _ rfl hw9.blk Tryd.underlying35 rfl (mc_inf hl) _ _ rfl rfl) rfl ?_
  exact ⟨rfl, (J.j.out hn9 hw9).old⟩
end Go.Proofs.YtepkhkfdokinmaaDoor
