/-
  vm.step, class by class.
-/
import Derived.Test.YtelfdpcenplhjaaGreatDoorQVmF
import Derived.Test.YtelfdpcenplhjaaGreatDoorQHE
namespace Go.Proofs.YtelfdpcenplhjaaGreatDoor
open Go.RowKit
set_option linter.unusedVariables false
theorem cel_inf (q : Ins) : (Tryz.prog.info? 111).map (·.size) = some (celI q).toArray.size := (by kernel_rfl : (Tryz.prog.info? 111).map (·.size) = some 4)
def zerC : Array Value := mcC 0 0 0 (List.replicate 16 0)
theorem zer_lit : (#[.int .i64 0, .int .u32 0, .int .u32 0, .int .u32 0, .int .u32 0, .int .u32 0, .int .u32 0, .int .u32 0, .int .u32 0, .int .u32 0, .int .u32 0, .int .u32 0, .int .u32 0, .int .u32 0, .int .u32 0, .int .u32 0, .int .u32 0, .int .u32 0, .int .u32 0] : Array Value) = zerC := by simp [zerC, mcC, arrC, List.replicate]
theorem results_row_two {P : Program} {fn : Func} {p u v : Tmp} {ty : TypeId} (h : fn.results = #[.cell p ty, .tmp u, .tmp v]) (tmps : Array Value) (w : World) (g : Nat) (t : TypeId) (cs : Array Value) (fr : Nat × Nat) (d : TypeDesc)
    (hp : tmps.getD p undef = .pointer (some ⟨g, 0, none⟩)) (hg : w.heap[g]? = some (.cells cs t fr))
    (hu : P.underlying ty = some d) (hd : (match d with | .struct _ | .array _ _ => true | _ => false) = true) (hi : (P.info? ty).map (·.size) = some cs.size) (x y : Value) (hx : tmps.getD u undef = x) (hy : tmps.getD v undef = y) :
    (results fn tmps).run P w = .ok (.tuple #[.agg cs, x, y]) w := by
  subst hx hy
  have hp' : tmps[p]?.getD undef = .pointer (some ⟨g, 0, none⟩) := by simpa using hp
  simp [results, h, hp', asAddr, run_loadVar_row w g t ty cs fr d hg hu hd hi]
structure SJ (w V : World) (q : Ins) (d : Dat) (p a x : Int) (mem : List Int) (r t : Array Value) : Prop where
  j : LJ w V q d p a x mem
  kr : Blk V (w.heap.size + 1 + 1 + 1) r 149
  kt : Blk V (w.heap.size + 1 + 1 + 1 + 1) t 149
section
variable {w V V' : World} {q : Ins} {d : Dat} {p a x : Int} {mem : List Int} {r r' t t' : Array Value}
theorem SJ.below (h : SJ w V q d p a x mem r t) (hb : Below V.heap.size V V') : SJ w V' q d p a x mem r t := ⟨h.j.below hb, h.kr.below hb h.kr.lt, h.kt.below hb h.kt.lt⟩
theorem SJ.drew (h : SJ w V q d p a x mem r t) : SJ w V.drew q d p a x mem r t := h.below (Below.refl _ _).drew
theorem LJ.but (h : LJ w V q d p a x mem) {g : Nat} (n : But g V V') (hg : w.heap.size + 1 + 1 < g) : LJ w V' q d p a x mem :=
  have hb := n.below (w.heap.size + 1 + 1 + 1) (by omega) (by have := h.km.lt; omega)
  ⟨But.blk' n h.ki (by omega), But.blk' n h.kd (by omega), But.blk' n h.km (by omega), h.kk.below hb (by omega), h.old.trans (hb.mono (by omega))⟩
theorem SJ.set_ (h : SJ w V q d p a x mem r t) (k : Nat) (u : Value) (hu : t.setIfInBounds k u = t') : SJ w (V.setCell ⟨w.heap.size + 1 + 1 + 1 + 1, k, none⟩ u) q d p a x mem r t' := by
  subst hu
  have n : But (w.heap.size + 1 + 1 + 1 + 1) V (V.setCell ⟨w.heap.size + 1 + 1 + 1 + 1, k, none⟩ u) := But.setCell (But.refl _ _) (p := ⟨w.heap.size + 1 + 1 + 1 + 1, k, none⟩) (.inl rfl) u
  exact ⟨h.j.but n (by omega), But.blk' n h.kr (by omega), h.kt.set_ k u⟩
theorem SJ.out (h : SJ w V q d p a x mem r t) (n : But (w.heap.size + 1 + 1 + 1) V V') (k : Blk V' (w.heap.size + 1 + 1 + 1) r' 149) : SJ w V' q d p a x mem r' t :=
  ⟨h.j.but n (by omega), k, But.blk' n h.kt (by omega)⟩
theorem SJ.start {w3 : World} (hK : Kinds w) (n : But (w.heap.size + 1 + 1 + 1 + 1) (((((w.alloc (.cells (celI q).toArray 111)).alloc (.cells (datC d) 64)).alloc (.cells (mcC p a x mem) 149)).alloc (.cells r 149)).alloc (.cells t' 149)) w3)
    (k : Blk w3 (w.heap.size + 1 + 1 + 1 + 1) t 149) : SJ w w3 q d p a x mem r t :=
  have J := LJ.new (q := q) (d := d) (p := p) (a := a) (x := x) (mem := mem) w hK
  have J' := (J.below ((Below.refl _ _).alloc (Nat.le_refl _) (.cells r 149)))
  have J'' := (J'.below ((Below.refl _ _).alloc (Nat.le_refl _) (.cells t' 149)))
  have R := (Blk.new_ (((w.alloc (.cells (celI q).toArray 111)).alloc (.cells (datC d) 64)).alloc (.cells (mcC p a x mem) 149)) r 149 (n := w.heap.size + 1 + 1 + 1) (by simp)).alloc (.cells t' 149)
  ⟨J''.but n (by omega), But.blk' n R (by omega), k⟩
end
set_option maxRecDepth 100000 in
set_option maxHeartbeats 4000000 in
theorem step_ld (c y z k : Int) (d : Dat) (hd : DatOk d) (p a x : Int) (mem : List Int) (hl : mem.length = 16) (hq : InsOk c y z k) (ha : U32 a) (hx : U32 x) (hp : 0 ≤ p ∧ p ≤ 1000) (hcl : c % 8 = 0) (h2 : formOf c = 2 → rightB k = true) (h3 : formOf c = 3 → k < 16) (w : World) (hK : Kinds w) :
    Calls Tryz.prog 116 #[insV c y z k, datV d, .agg (mcC p a x mem)] w fun e w' => e = .returned (.tuple #[.agg (mcC (p + 1) (ldI (c, y, z, k) (dW d) mem) x mem), .int .u32 0, .bool false]) ∧ Below w.heap.size w w' := by
  obtain ⟨hp0, hp1⟩ := hp
  have hb7 := bits_7 c hq.c0 hq.c1
  rw [hcl] at hb7
  have KM : Blk ((((w.alloc (.cells (celI (c, y, z, k)).toArray 111)).alloc (.cells (datC d) 64)).alloc (.cells (mcC p a x mem) 149)).alloc (.cells zerC 149)) (w.heap.size + 1 + 1) (mcC p a x mem) 149 := (Blk.new_ _ _ _ (by simp)).alloc _
  have HL := fun V hK => loaded_any (c, y, z, k) d hd p a x mem hl hq h2 h3 V hK
  obtain ⟨v, hv⟩ : ∃ v, ldI (c, y, z, k) (dW d) mem = v := ⟨_, rfl⟩
  rw [hv] at HL ⊢
  simp only [valI, insV, datV] at HL
  clear hv h2 h3
  unfold insV datV
  go_enter Tryz.func116, Tryz.ntmps116
  go_wp2_with (first
    | (refine wpList_load_row rfl 149 (.tmp 5) rfl (w.heap.size + 1 + 1) rfl 149 (mcC p a x mem) (0, 0) _ KM.blk Tryz.underlying149 rfl (mc_inf hl) ?_)
    | (refine wpList_store_blk rfl 149 (.tmp 9) (.tmp 12) rfl (w.heap.size + 1 + 1 + 1 + 1) _ (mcC p a x mem) 149 rfl rfl (Blk.new_ _ _ _ (by simp)) (mc_size hl).symm (mc_inf hl) mc_one ?_
       intro w3 hw3 hn3
       have J3 := SJ.start (q := (c, y, z, k)) (d := d) (p := p) (a := a) (x := x) (mem := mem) hK hn3 hw3
       have J4 := Lib.hid (J3.set_ 0 (.int .i64 (p + 1)) (mc_s0 (p + 1)))
       have t0 := (J3.kt.cell 0).trans mc_0
       have f0 := J3.kt.frozen 0
       obtain ⟨i0, i1, i2, i3⟩ := J3.j.cells
       simp only at i0
       clear hn3 hw3 KM J3 i1 i2 i3)
    | (refine wpList_load_row rfl 111 (.tmp 3) rfl w.heap.size rfl 111 (celI (c, y, z, k)).toArray (0, 0) _ J4.out.j.ki.blk Tryz.underlying111 rfl (cel_inf _) ?_; simp only [celI])
    | (refine wpList_load_row rfl 64 (.tmp 4) rfl (w.heap.size + 1) rfl 64 (datC d) (0, 0) _ J4.out.j.kd.blk Tryz.underlying64 rfl dat_info ?_)
    | (refine wpList_load_row rfl 149 (.tmp 5) rfl (w.heap.size + 1 + 1) rfl 149 (mcC p a x mem) (0, 0) _ J4.out.j.km.blk Tryz.underlying149 rfl (mc_inf hl) ?_))
  have JJ := J4.out
  clear J4 t0 f0 i0
  generalize w3.setCell ⟨w.heap.size + 1 + 1 + 1 + 1, 0, none⟩ (.int .i64 (p + 1)) = V at JJ ⊢
  refine (HL V JJ.j.kk).mono ?_
  rintro e V' ⟨rfl, hb⟩
  have J5 := JJ.below hb
  have c1 := (J5.kt.cell 1).trans mc_1
  have f1 := J5.kt.frozen 1
  have J6 := Lib.hid (J5.set_ 1 (.int .u32 v) (mc_s1 v))
  clear hb JJ J5
  go_wp2_with (first
    | (refine wpList_load_row rfl 149 (.tmp 9) rfl (w.heap.size + 1 + 1 + 1 + 1) rfl 149 (mcC (p + 1) v x mem) (0, 0) _ J6.out.kt.blk Tryz.underlying149 rfl (mc_inf hl) ?_)
    | (refine wpList_store_blk rfl 149 (.tmp 6) (.tmp 93) rfl (w.heap.size + 1 + 1 + 1) _ (mcC (p + 1) v x mem) 149 rfl rfl J6.out.kr (mc_size hl).symm (mc_inf hl) mc_one ?_; intro w9 hw9 hn9))
  refine bodyPost_ret (v := .tuple #[.agg (mcC (p + 1) v x mem), .int .u32 0, .bool false]) (results_row_two rfl _ _ (w.heap.size + 1 + 1 + 1) 149 (mcC (p + 1) v x mem) (0, 0) _ rfl hw9.blk Tryz.underlying149 rfl (mc_inf hl) _ _ rfl rfl) rfl ?_
  exact ⟨rfl, (J6.out.out hn9 hw9).j.old⟩
set_option maxRecDepth 100000 in
set_option maxHeartbeats 4000000 in
theorem step_ldx (c y z k : Int) (d : Dat) (hd : DatOk d) (p a x : Int) (mem : List Int) (hl : mem.length = 16) (hq : InsOk c y z k) (ha : U32 a) (hx : U32 x) (hp : 0 ≤ p ∧ p ≤ 1000) (hcl : c % 8 = 1) (h2 : formOf c = 2 → rightB k = true) (h3 : formOf c = 3 → k < 16) (w : World) (hK : Kinds w) :
    Calls Tryz.prog 116 #[insV c y z k, datV d, .agg (mcC p a x mem)] w fun e w' => e = .returned (.tuple #[.agg (mcC (p + 1) a (ldI (c, y, z, k) (dW d) mem) mem), .int .u32 0, .bool false]) ∧ Below w.heap.size w w' := by
  obtain ⟨hp0, hp1⟩ := hp
  have hb7 := bits_7 c hq.c0 hq.c1
  rw [hcl] at hb7
  have KM : Blk ((((w.alloc (.cells (celI (c, y, z, k)).toArray 111)).alloc (.cells (datC d) 64)).alloc (.cells (mcC p a x mem) 149)).alloc (.cells zerC 149)) (w.heap.size + 1 + 1) (mcC p a x mem) 149 := (Blk.new_ _ _ _ (by simp)).alloc _
  have HL := fun V hK => loaded_any (c, y, z, k) d hd p a x mem hl hq h2 h3 V hK
  obtain ⟨v, hv⟩ : ∃ v, ldI (c, y, z, k) (dW d) mem = v := ⟨_, rfl⟩
  rw [hv] at HL ⊢
  simp only [valI, insV, datV] at HL
  clear hv h2 h3
  unfold insV datV
  go_enter Tryz.func116, Tryz.ntmps116
  go_wp2_with (first
    | (refine wpList_load_row rfl 149 (.tmp 5) rfl (w.heap.size + 1 + 1) rfl 149 (mcC p a x mem) (0, 0) _ KM.blk Tryz.underlying149 rfl (mc_inf hl) ?_)
    | (refine wpList_store_blk rfl 149 (.tmp 9) (.tmp 12) rfl (w.heap.size + 1 + 1 + 1 + 1) _ (mcC p a x mem) 149 rfl rfl (Blk.new_ _ _ _ (by simp)) (mc_size hl).symm (mc_inf hl) mc_one ?_
       intro w3 hw3 hn3
       have J3 := SJ.start (q := (c, y, z, k)) (d := d) (p := p) (a := a) (x := x) (mem := mem) hK hn3 hw3
       have J4 := Lib.hid (J3.set_ 0 (.int .i64 (p + 1)) (mc_s0 (p + 1)))
       have t0 := (J3.kt.cell 0).trans mc_0
       have f0 := J3.kt.frozen 0
       obtain ⟨i0, i1, i2, i3⟩ := J3.j.cells
       simp only at i0
       clear hn3 hw3 KM J3 i1 i2 i3)
    | (refine wpList_load_row rfl 111 (.tmp 3) rfl w.heap.size rfl 111 (celI (c, y, z, k)).toArray (0, 0) _ J4.out.j.ki.blk Tryz.underlying111 rfl (cel_inf _) ?_; simp only [celI])
    | (refine wpList_load_row rfl 64 (.tmp 4) rfl (w.heap.size + 1) rfl 64 (datC d) (0, 0) _ J4.out.j.kd.blk Tryz.underlying64 rfl dat_info ?_)
    | (refine wpList_load_row rfl 149 (.tmp 5) rfl (w.heap.size + 1 + 1) rfl 149 (mcC p a x mem) (0, 0) _ J4.out.j.km.blk Tryz.underlying149 rfl (mc_inf hl) ?_))
  have JJ := J4.out
  clear J4 t0 f0 i0
  generalize w3.setCell ⟨w.heap.size + 1 + 1 + 1 + 1, 0, none⟩ (.int .i64 (p + 1)) = V at JJ ⊢
  refine (HL V JJ.j.kk).mono ?_
  rintro e V' ⟨rfl, hb⟩
  have J5 := JJ.below hb
  have c1 := (J5.kt.cell 2).trans mc_2
  have f1 := J5.kt.frozen 2
  have J6 := Lib.hid (J5.set_ 2 (.int .u32 v) (mc_s2 v))
  clear hb JJ J5
  go_wp2_with (first
    | (refine wpList_load_row rfl 149 (.tmp 9) rfl (w.heap.size + 1 + 1 + 1 + 1) rfl 149 (mcC (p + 1) a v mem) (0, 0) _ J6.out.kt.blk Tryz.underlying149 rfl (mc_inf hl) ?_)
    | (refine wpList_store_blk rfl 149 (.tmp 6) (.tmp 93) rfl (w.heap.size + 1 + 1 + 1) _ (mcC (p + 1) a v mem) 149 rfl rfl J6.out.kr (mc_size hl).symm (mc_inf hl) mc_one ?_; intro w9 hw9 hn9))
  refine bodyPost_ret (v := .tuple #[.agg (mcC (p + 1) a v mem), .int .u32 0, .bool false]) (results_row_two rfl _ _ (w.heap.size + 1 + 1 + 1) 149 (mcC (p + 1) a v mem) (0, 0) _ rfl hw9.blk Tryz.underlying149 rfl (mc_inf hl) _ _ rfl rfl) rfl ?_
  exact ⟨rfl, (J6.out.out hn9 hw9).j.old⟩
set_option maxRecDepth 100000 in
set_option maxHeartbeats 4000000 in
theorem step_st (c y z k : Int) (d : Dat) (hd : DatOk d) (p a x : Int) (mem : List Int) (hl : mem.length = 16) (hq : InsOk c y z k) (ha : U32 a) (hx : U32 x) (hp : 0 ≤ p ∧ p ≤ 1000) (hcl : c % 8 = 2) (kn : Nat) (hkn : k = (kn : Int)) (h16 : kn < 16) (w : World) (hK : Kinds w) :
    Calls Tryz.prog 116 #[insV c y z k, datV d, .agg (mcC p a x mem)] w fun e w' => e = .returned (.tuple #[.agg (mcC (p + 1) a x (mem.set kn a)), .int .u32 0, .bool false]) ∧ Below w.heap.size w w' := by
  obtain ⟨hp0, hp1⟩ := hp
  have hb7 := bits_7 c hq.c0 hq.c1
  rw [hcl] at hb7
  have KM : Blk ((((w.alloc (.cells (celI (c, y, z, (kn : Int))).toArray 111)).alloc (.cells (datC d) 64)).alloc (.cells (mcC p a x mem) 149)).alloc (.cells zerC 149)) (w.heap.size + 1 + 1) (mcC p a x mem) 149 := (Blk.new_ _ _ _ (by simp)).alloc _
  subst hkn
  have hl6 : (mem.set kn a).length = 16 := by simp [hl]
  have hk16 : (kn : Int) < 16 := by omega
  unfold insV datV
  go_enter Tryz.func116, Tryz.ntmps116
  go_wp2_with (first
    | (refine wpList_load_row rfl 149 (.tmp 5) rfl (w.heap.size + 1 + 1) rfl 149 (mcC p a x mem) (0, 0) _ KM.blk Tryz.underlying149 rfl (mc_inf hl) ?_)
    | (refine wpList_store_blk rfl 149 (.tmp 9) (.tmp 12) rfl (w.heap.size + 1 + 1 + 1 + 1) _ (mcC p a x mem) 149 rfl rfl (Blk.new_ _ _ _ (by simp)) (mc_size hl).symm (mc_inf hl) mc_one ?_
       intro w3 hw3 hn3
       have J3 := SJ.start (q := (c, y, z, (kn : Int))) (d := d) (p := p) (a := a) (x := x) (mem := mem) hK hn3 hw3
       have J4 := Lib.hid (J3.set_ 0 (.int .i64 (p + 1)) (mc_s0 (p + 1)))
       have t0 := (J3.kt.cell 0).trans mc_0
       have f0 := J3.kt.frozen 0
       obtain ⟨i0, i1, i2, i3⟩ := J3.j.cells
       simp only at i0
       simp only at i3
       have mv := (J3.j.km.cell 1).trans mc_1
       have t3 := (J3.kt.cell (3 + kn)).trans (mc_3 hl h16)
       have f3 := J3.kt.frozen (3 + kn)
       have J6 := Lib.hid (J4.out.set_ (3 + kn) (.int .u32 a) (mc_s3 kn a))
       clear hn3 hw3 KM J3 i1 i2)
    | (refine wpList_load_row rfl 149 (.tmp 9) rfl (w.heap.size + 1 + 1 + 1 + 1) rfl 149 (mcC (p + 1) a x (mem.set kn a)) (0, 0) _ J6.out.kt.blk Tryz.underlying149 rfl (mc_inf hl6) ?_)
    | (refine wpList_store_blk rfl 149 (.tmp 6) (.tmp 93) rfl (w.heap.size + 1 + 1 + 1) _ (mcC (p + 1) a x (mem.set kn a)) 149 rfl rfl J6.out.kr (mc_size hl6).symm (mc_inf hl6) mc_one ?_; intro w9 hw9 hn9))
  refine bodyPost_ret (v := .tuple #[.agg (mcC (p + 1) a x (mem.set kn a)), .int .u32 (0), .bool false]) (results_row_two rfl _ _ (w.heap.size + 1 + 1 + 1) 149 (mcC (p + 1) a x (mem.set kn a)) (0, 0) _ rfl hw9.blk Tryz.underlying149 rfl (mc_inf hl6) _ _ rfl rfl) rfl ?_
  exact ⟨rfl, (J6.out.out hn9 hw9).j.old⟩
set_option maxRecDepth 100000 in
set_option maxHeartbeats 4000000 in
theorem step_stx (c y z k : Int) (d : Dat) (hd : DatOk d) (p a x : Int) (mem : List Int) (hl : mem.length = 16) (hq : InsOk c y z k) (ha : U32 a) (hx : U32 x) (hp : 0 ≤ p ∧ p ≤ 1000) (hcl : c % 8 = 3) (kn : Nat) (hkn : k = (kn : Int)) (h16 : kn < 16) (w : World) (hK : Kinds w) :
    Calls Tryz.prog 116 #[insV c y z k, datV d, .agg (mcC p a x mem)] w fun e w' => e = .returned (.tuple #[.agg (mcC (p + 1) a x (mem.set kn x)), .int .u32 0, .bool false]) ∧ Below w.heap.size w w' := by
  obtain ⟨hp0, hp1⟩ := hp
  have hb7 := bits_7 c hq.c0 hq.c1
  rw [hcl] at hb7
  have KM : Blk ((((w.alloc (.cells (celI (c, y, z, (kn : Int))).toArray 111)).alloc (.cells (datC d) 64)).alloc (.cells (mcC p a x mem) 149)).alloc (.cells zerC 149)) (w.heap.size + 1 + 1) (mcC p a x mem) 149 := (Blk.new_ _ _ _ (by simp)).alloc _
  subst hkn
  have hl6 : (mem.set kn x).length = 16 := by simp [hl]
  have hk16 : (kn : Int) < 16 := by omega
  unfold insV datV
  go_enter Tryz.func116, Tryz.ntmps116
  go_wp2_with (first
    | (refine wpList_load_row rfl 149 (.tmp 5) rfl (w.heap.size + 1 + 1) rfl 149 (mcC p a x mem) (0, 0) _ KM.blk Tryz.underlying149 rfl (mc_inf hl) ?_)
    | (refine wpList_store_blk rfl 149 (.tmp 9) (.tmp 12) rfl (w.heap.size + 1 + 1 + 1 + 1) _ (mcC p a x mem) 149 rfl rfl (Blk.new_ _ _ _ (by simp)) (mc_size hl).symm (mc_inf hl) mc_one ?_
       intro w3 hw3 hn3
       have J3 := SJ.start (q := (c, y, z, (kn : Int))) (d := d) (p := p) (a := a) (x := x) (mem := mem) hK hn3 hw3
       have J4 := Lib.hid (J3.set_ 0 (.int .i64 (p + 1)) (mc_s0 (p + 1)))
       have t0 := (J3.kt.cell 0).trans mc_0
       have f0 := J3.kt.frozen 0
       obtain ⟨i0, i1, i2, i3⟩ := J3.j.cells
       simp only at i0
       simp only at i3
       have mv := (J3.j.km.cell 2).trans mc_2
       have t3 := (J3.kt.cell (3 + kn)).trans (mc_3 hl h16)
       have f3 := J3.kt.frozen (3 + kn)
       have J6 := Lib.hid (J4.out.set_ (3 + kn) (.int .u32 x) (mc_s3 kn x))
       clear hn3 hw3 KM J3 i1 i2)
    | (refine wpList_load_row rfl 149 (.tmp 9) rfl (w.heap.size + 1 + 1 + 1 + 1) rfl 149 (mcC (p + 1) a x (mem.set kn x)) (0, 0) _ J6.out.kt.blk Tryz.underlying149 rfl (mc_inf hl6) ?_)
    | (refine wpList_store_blk rfl 149 (.tmp 6) (.tmp 93) rfl (w.heap.size + 1 + 1 + 1) _ (mcC (p + 1) a x (mem.set kn x)) 149 rfl rfl J6.out.kr (mc_size hl6).symm (mc_inf hl6) mc_one ?_; intro w9 hw9 hn9))
  refine bodyPost_ret (v := .tuple #[.agg (mcC (p + 1) a x (mem.set kn x)), .int .u32 (0), .bool false]) (results_row_two rfl _ _ (w.heap.size + 1 + 1 + 1) 149 (mcC (p + 1) a x (mem.set kn x)) (0, 0) _ rfl hw9.blk Tryz.underlying149 rfl (mc_inf hl6) _ _ rfl rfl) rfl ?_
  exact ⟨rfl, (J6.out.out hn9 hw9).j.old⟩
set_option maxRecDepth 100000 in
set_option maxHeartbeats 4000000 in
theorem step_mov (c y z k : Int) (d : Dat) (hd : DatOk d) (p a x : Int) (mem : List Int) (hl : mem.length = 16) (hq : InsOk c y z k) (ha : U32 a) (hx : U32 x) (hp : 0 ≤ p ∧ p ≤ 1000) (hcl : c % 8 = 7) (w : World) (hK : Kinds w) :
    Calls Tryz.prog 116 #[insV c y z k, datV d, .agg (mcC p a x mem)] w fun e w' => e = .returned (.tuple #[.agg (mcC (p + 1) (if (nameOf c).1.toList = [116, 97, 120] then a else x) (if (nameOf c).1.toList = [116, 97, 120] then a else x) mem), .int .u32 0, .bool false]) ∧ Below w.heap.size w w' := by
  obtain ⟨hp0, hp1⟩ := hp
  have hb7 := bits_7 c hq.c0 hq.c1
  rw [hcl] at hb7
  have KM : Blk ((((w.alloc (.cells (celI (c, y, z, k)).toArray 111)).alloc (.cells (datC d) 64)).alloc (.cells (mcC p a x mem) 149)).alloc (.cells zerC 149)) (w.heap.size + 1 + 1) (mcC p a x mem) 149 := (Blk.new_ _ _ _ (by simp)).alloc _
  have HL := fun V hK => moved_any c y z k p a x mem V hK
  obtain ⟨v, hv⟩ : ∃ v, (if (nameOf c).1.toList = [116, 97, 120] then a else x) = v := ⟨_, rfl⟩
  rw [hv] at HL ⊢
  simp only [insV] at HL
  clear hv
  unfold insV datV
  go_enter Tryz.func116, Tryz.ntmps116
  go_wp2_with (first
    | (refine wpList_load_row rfl 149 (.tmp 5) rfl (w.heap.size + 1 + 1) rfl 149 (mcC p a x mem) (0, 0) _ KM.blk Tryz.underlying149 rfl (mc_inf hl) ?_)
    | (refine wpList_store_blk rfl 149 (.tmp 9) (.tmp 12) rfl (w.heap.size + 1 + 1 + 1 + 1) _ (mcC p a x mem) 149 rfl rfl (Blk.new_ _ _ _ (by simp)) (mc_size hl).symm (mc_inf hl) mc_one ?_
       intro w3 hw3 hn3
       have J3 := SJ.start (q := (c, y, z, k)) (d := d) (p := p) (a := a) (x := x) (mem := mem) hK hn3 hw3
       have J4 := Lib.hid (J3.set_ 0 (.int .i64 (p + 1)) (mc_s0 (p + 1)))
       have t0 := (J3.kt.cell 0).trans mc_0
       have f0 := J3.kt.frozen 0
       obtain ⟨i0, i1, i2, i3⟩ := J3.j.cells
       simp only at i0
       clear hn3 hw3 KM J3 i1 i2 i3)
    | (refine wpList_load_row rfl 111 (.tmp 3) rfl w.heap.size rfl 111 (celI (c, y, z, k)).toArray (0, 0) _ J4.out.j.ki.blk Tryz.underlying111 rfl (cel_inf _) ?_; simp only [celI])
    | (refine wpList_load_row rfl 149 (.tmp 5) rfl (w.heap.size + 1 + 1) rfl 149 (mcC p a x mem) (0, 0) _ J4.out.j.km.blk Tryz.underlying149 rfl (mc_inf hl) ?_))
  have JJ := J4.out
  clear J4 t0 f0 i0
  generalize w3.setCell ⟨w.heap.size + 1 + 1 + 1 + 1, 0, none⟩ (.int .i64 (p + 1)) = V at JJ ⊢
  refine (HL V JJ.j.kk).mono ?_
  rintro e V' ⟨rfl, hb⟩
  have J5 := JJ.below hb
  have c1 := (J5.kt.cell 1).trans mc_1
  have f1 := J5.kt.frozen 1
  have c2 := (J5.kt.cell 2).trans mc_2
  have f2 := J5.kt.frozen 2
  have J6 := Lib.hid ((J5.set_ 1 (.int .u32 v) (mc_s1 v)).set_ 2 (.int .u32 v) (mc_s2 v))
  clear hb JJ J5
  go_wp2_with (first
    | (refine wpList_load_row rfl 149 (.tmp 9) rfl (w.heap.size + 1 + 1 + 1 + 1) rfl 149 (mcC (p + 1) v v mem) (0, 0) _ J6.out.kt.blk Tryz.underlying149 rfl (mc_inf hl) ?_)
    | (refine wpList_store_blk rfl 149 (.tmp 6) (.tmp 93) rfl (w.heap.size + 1 + 1 + 1) _ (mcC (p + 1) v v mem) 149 rfl rfl J6.out.kr (mc_size hl).symm (mc_inf hl) mc_one ?_; intro w9 hw9 hn9))
  refine bodyPost_ret (v := .tuple #[.agg (mcC (p + 1) v v mem), .int .u32 (0), .bool false]) (results_row_two rfl _ _ (w.heap.size + 1 + 1 + 1) 149 (mcC (p + 1) v v mem) (0, 0) _ rfl hw9.blk Tryz.underlying149 rfl (mc_inf hl) _ _ rfl rfl) rfl ?_
  exact ⟨rfl, (J6.out.out hn9 hw9).j.old⟩
set_option maxRecDepth 100000 in
set_option maxHeartbeats 4000000 in
theorem step_alu (c y z k : Int) (d : Dat) (hd : DatOk d) (p a x : Int) (mem : List Int) (hl : mem.length = 16) (hq : InsOk c y z k) (ha : U32 a) (hx : U32 x) (hp : 0 ≤ p ∧ p ≤ 1000) (hcl : c % 8 = 4) (v : Int) (hv : alI c a (if formOf c = 1 ∨ formOf c = 5 then k else x) = some v) (w : World) (hK : Kinds w) :
    Calls Tryz.prog 116 #[insV c y z k, datV d, .agg (mcC p a x mem)] w fun e w' => e = .returned (.tuple #[.agg (mcC (p + 1) v x mem), .int .u32 0, .bool false]) ∧ Below w.heap.size w w' := by
  obtain ⟨hp0, hp1⟩ := hp
  have hb7 := bits_7 c hq.c0 hq.c1
  rw [hcl] at hb7
  have KM : Blk ((((w.alloc (.cells (celI (c, y, z, k)).toArray 111)).alloc (.cells (datC d) 64)).alloc (.cells (mcC p a x mem) 149)).alloc (.cells zerC 149)) (w.heap.size + 1 + 1) (mcC p a x mem) 149 := (Blk.new_ _ _ _ (by simp)).alloc _
  have HS := fun V hK => second_any c y z k p a x mem V hK
  obtain ⟨b, hb⟩ : ∃ b, (if formOf c = 1 ∨ formOf c = 5 then k else x) = b := ⟨_, rfl⟩
  have hbU : U32 b := by rw [← hb]; split; exact ⟨hq.k0, hq.k1⟩; exact hx
  rw [hb] at HS hv
  have HA := fun V => alu_any c a b hq.c0 hq.c1 ha hbU V
  have e1 : aluV c a b = v := by unfold aluV; rw [hv]
  have e2 : aluB c a b = true := by unfold aluB; rw [hv]
  rw [e1, e2] at HA
  simp only [insV] at HS
  clear hb hv e1 e2 hbU
  have S' := Lib.hid (calls_keep (S := fun V => SJ w V (c, y, z, k) d p a x mem zerC (mcC (p + 1) a x mem)) (fun V V' h hb => h.below hb) (fun V h => HS V h.j.kk))
  have H' := Lib.hid (calls_keep (S := fun V => SJ w V (c, y, z, k) d p a x mem zerC (mcC (p + 1) a x mem)) (fun V V' h hb => h.below hb) (fun V _ => HA V))
  clear HS HA
  unfold insV datV
  go_enter Tryz.func116, Tryz.ntmps116
  go_wp2_with (first
    | (refine wpList_load_row rfl 149 (.tmp 5) rfl (w.heap.size + 1 + 1) rfl 149 (mcC p a x mem) (0, 0) _ KM.blk Tryz.underlying149 rfl (mc_inf hl) ?_)
    | (refine wpList_store_blk rfl 149 (.tmp 9) (.tmp 12) rfl (w.heap.size + 1 + 1 + 1 + 1) _ (mcC p a x mem) 149 rfl rfl (Blk.new_ _ _ _ (by simp)) (mc_size hl).symm (mc_inf hl) mc_one ?_
       intro w3 hw3 hn3
       have J3 := SJ.start (q := (c, y, z, k)) (d := d) (p := p) (a := a) (x := x) (mem := mem) hK hn3 hw3
       have J4 := Lib.hid (J3.set_ 0 (.int .i64 (p + 1)) (mc_s0 (p + 1)))
       have t0 := (J3.kt.cell 0).trans mc_0
       have f0 := J3.kt.frozen 0
       obtain ⟨i0, i1, i2, i3⟩ := J3.j.cells
       simp only at i0
       clear hn3 hw3 KM J3 i1 i2 i3))
  have JJ := J4.out
  rw [zer_lit] at JJ
  clear J4 t0 f0 i0
  generalize w3.setCell ⟨w.heap.size + 1 + 1 + 1 + 1, 0, none⟩ (.int .i64 (p + 1)) = V0 at JJ ⊢
  have J0 := JJ.drew
  have hS1 : ∀ s : Sig (fun V => SJ w V (c, y, z, k) d p a x mem zerC (mcC (p + 1) a x mem)), s.V.cell? ⟨w.heap.size, 0, none⟩ = some (.int .u16 c) := fun s => s.h.j.ki.cell 0
  have hS2 : ∀ s : Sig (fun V => SJ w V (c, y, z, k) d p a x mem zerC (mcC (p + 1) a x mem)), s.V.cell? ⟨w.heap.size + 1 + 1, 1, none⟩ = some (.int .u32 a) := fun s => (s.h.j.km.cell 1).trans mc_1
  have hS3 : ∀ s : Sig (fun V => SJ w V (c, y, z, k) d p a x mem zerC (mcC (p + 1) a x mem)), s.V.cell? ⟨w.heap.size + 1 + 1 + 1 + 1, 0, none⟩ = some (.int .i64 (p + 1)) := fun s => (s.h.kt.cell 0).trans mc_0
  have hne : Nonempty (Sig (fun V => SJ w V (c, y, z, k) d p a x mem zerC (mcC (p + 1) a x mem))) := ⟨⟨_, J0⟩⟩
  refine region_class (S := fun V => SJ w V (c, y, z, k) d p a x mem zerC (mcC (p + 1) a x mem)) (by kernel_rfl) (by kernel_rfl) J0 ?_
  repeat (first
    | (refine class_load (by rfl) 111 (.tmp 3) rfl w.heap.size rfl (celI (c, y, z, k)).toArray 111 _ (fun _ h => h.j.ki) Tryz.underlying111 rfl (cel_inf _) ?_; simp only [celI, Act.put, List.setIfInBounds_toArray, List.set_cons_zero, List.set_cons_succ])
    | (refine class_load (by rfl) 149 (.tmp 5) rfl (w.heap.size + 1 + 1) rfl (mcC p a x mem) 149 _ (fun _ h => h.j.km) Tryz.underlying149 rfl (mc_inf hl) ?_; simp only [Act.put, List.setIfInBounds_toArray, List.set_cons_zero, List.set_cons_succ])
    | go_big_quiet_step (first | (go_at_call 133; exact class_call _ S'.out) | (go_at_call 132; exact class_call _ H'.out)))
  refine wpQuiet_nil ?_
  rintro _ ⟨⟨V, J7⟩, rfl⟩
  clear hS1 hS2 hS3 hne J0 S' H'
  have c1 := (J7.kt.cell 1).trans mc_1
  have f1 := J7.kt.frozen 1
  have J6 := Lib.hid (J7.set_ 1 (.int .u32 v) (mc_s1 v))
  clear J7 JJ
  go_wp2_with (first
    | (refine wpList_load_row rfl 149 (.tmp 9) rfl (w.heap.size + 1 + 1 + 1 + 1) rfl 149 (mcC (p + 1) v x mem) (0, 0) _ J6.out.kt.blk Tryz.underlying149 rfl (mc_inf hl) ?_)
    | (refine wpList_store_blk rfl 149 (.tmp 6) (.tmp 93) rfl (w.heap.size + 1 + 1 + 1) _ (mcC (p + 1) v x mem) 149 rfl rfl J6.out.kr (mc_size hl).symm (mc_inf hl) mc_one ?_; intro w9 hw9 hn9))
  refine bodyPost_ret (v := .tuple #[.agg (mcC (p + 1) v x mem), .int .u32 (0), .bool false]) (results_row_two rfl _ _ (w.heap.size + 1 + 1 + 1) 149 (mcC (p + 1) v x mem) (0, 0) _ rfl hw9.blk Tryz.underlying149 rfl (mc_inf hl) _ _ rfl rfl) rfl ?_
  exact ⟨rfl, (J6.out.out hn9 hw9).j.old⟩
set_option maxRecDepth 100000 in
set_option maxHeartbeats 4000000 in
theorem step_div (c y z k : Int) (d : Dat) (hd : DatOk d) (p a x : Int) (mem : List Int) (hl : mem.length = 16) (hq : InsOk c y z k) (ha : U32 a) (hx : U32 x) (hp : 0 ≤ p ∧ p ≤ 1000) (hcl : c % 8 = 4) (hv : alI c a (if formOf c = 1 ∨ formOf c = 5 then k else x) = none) (w : World) (hK : Kinds w) :
    Calls Tryz.prog 116 #[insV c y z k, datV d, .agg (mcC p a x mem)] w fun e w' => e = .returned (.tuple #[.agg (mcC p a x mem), .int .u32 0, .bool true]) ∧ Below w.heap.size w w' := by
  obtain ⟨hp0, hp1⟩ := hp
  have hb7 := bits_7 c hq.c0 hq.c1
  rw [hcl] at hb7
  have KM : Blk ((((w.alloc (.cells (celI (c, y, z, k)).toArray 111)).alloc (.cells (datC d) 64)).alloc (.cells (mcC p a x mem) 149)).alloc (.cells zerC 149)) (w.heap.size + 1 + 1) (mcC p a x mem) 149 := (Blk.new_ _ _ _ (by simp)).alloc _
  have HS := fun V hK => second_any c y z k p a x mem V hK
  obtain ⟨b, hb⟩ : ∃ b, (if formOf c = 1 ∨ formOf c = 5 then k else x) = b := ⟨_, rfl⟩
  have hbU : U32 b := by rw [← hb]; split; exact ⟨hq.k0, hq.k1⟩; exact hx
  rw [hb] at HS hv
  have HA := fun V => alu_any c a b hq.c0 hq.c1 ha hbU V
  have e1 : aluV c a b = 0 := by unfold aluV; rw [hv]
  have e2 : aluB c a b = false := by unfold aluB; rw [hv]
  rw [e1, e2] at HA
  simp only [insV] at HS
  clear hb hv e1 e2 hbU
  have S' := Lib.hid (calls_keep (S := fun V => SJ w V (c, y, z, k) d p a x mem zerC (mcC (p + 1) a x mem)) (fun V V' h hb => h.below hb) (fun V h => HS V h.j.kk))
  have H' := Lib.hid (calls_keep (S := fun V => SJ w V (c, y, z, k) d p a x mem zerC (mcC (p + 1) a x mem)) (fun V V' h hb => h.below hb) (fun V _ => HA V))
  clear HS HA
  unfold insV datV
  go_enter Tryz.func116, Tryz.ntmps116
  go_wp2_with (first
    | (refine wpList_load_row rfl 149 (.tmp 5) rfl (w.heap.size + 1 + 1) rfl 149 (mcC p a x mem) (0, 0) _ KM.blk Tryz.underlying149 rfl (mc_inf hl) ?_)
    | (refine wpList_store_blk rfl 149 (.tmp 9) (.tmp 12) rfl (w.heap.size + 1 + 1 + 1 + 1) _ (mcC p a x mem) 149 rfl rfl (Blk.new_ _ _ _ (by simp)) (mc_size hl).symm (mc_inf hl) mc_one ?_
       intro w3 hw3 hn3
       have J3 := SJ.start (q := (c, y, z, k)) (d := d) (p := p) (a := a) (x := x) (mem := mem) hK hn3 hw3
       have J4 := Lib.hid (J3.set_ 0 (.int .i64 (p + 1)) (mc_s0 (p + 1)))
       have t0 := (J3.kt.cell 0).trans mc_0
       have f0 := J3.kt.frozen 0
       obtain ⟨i0, i1, i2, i3⟩ := J3.j.cells
       simp only at i0
       clear hn3 hw3 KM J3 i1 i2 i3))
  have JJ := J4.out
  rw [zer_lit] at JJ
  clear J4 t0 f0 i0
  generalize w3.setCell ⟨w.heap.size + 1 + 1 + 1 + 1, 0, none⟩ (.int .i64 (p + 1)) = V0 at JJ ⊢
  have J0 := JJ.drew
  have hS1 : ∀ s : Sig (fun V => SJ w V (c, y, z, k) d p a x mem zerC (mcC (p + 1) a x mem)), s.V.cell? ⟨w.heap.size, 0, none⟩ = some (.int .u16 c) := fun s => s.h.j.ki.cell 0
  have hS2 : ∀ s : Sig (fun V => SJ w V (c, y, z, k) d p a x mem zerC (mcC (p + 1) a x mem)), s.V.cell? ⟨w.heap.size + 1 + 1, 1, none⟩ = some (.int .u32 a) := fun s => (s.h.j.km.cell 1).trans mc_1
  have hS3 : ∀ s : Sig (fun V => SJ w V (c, y, z, k) d p a x mem zerC (mcC (p + 1) a x mem)), s.V.cell? ⟨w.heap.size + 1 + 1 + 1 + 1, 0, none⟩ = some (.int .i64 (p + 1)) := fun s => (s.h.kt.cell 0).trans mc_0
  have hne : Nonempty (Sig (fun V => SJ w V (c, y, z, k) d p a x mem zerC (mcC (p + 1) a x mem))) := ⟨⟨_, J0⟩⟩
  refine region_class (S := fun V => SJ w V (c, y, z, k) d p a x mem zerC (mcC (p + 1) a x mem)) (by kernel_rfl) (by kernel_rfl) J0 ?_
  repeat (first
    | (refine class_load (by rfl) 111 (.tmp 3) rfl w.heap.size rfl (celI (c, y, z, k)).toArray 111 _ (fun _ h => h.j.ki) Tryz.underlying111 rfl (cel_inf _) ?_; simp only [celI, Act.put, List.setIfInBounds_toArray, List.set_cons_zero, List.set_cons_succ])
    | (refine class_load (by rfl) 149 (.tmp 5) rfl (w.heap.size + 1 + 1) rfl (mcC p a x mem) 149 _ (fun _ h => h.j.km) Tryz.underlying149 rfl (mc_inf hl) ?_; simp only [Act.put, List.setIfInBounds_toArray, List.set_cons_zero, List.set_cons_succ])
    | go_big_quiet_step (first | (go_at_call 133; exact class_call _ S'.out) | (go_at_call 132; exact class_call _ H'.out)))
  refine wpQuiet_nil ?_
  rintro _ ⟨⟨V, J7⟩, rfl⟩
  clear hS1 hS2 hS3 hne J0 S' H'
  have J6 := Lib.hid J7
  clear J7 JJ
  go_wp2_with (first
    | (refine wpList_load_row rfl 149 (.tmp 5) rfl (w.heap.size + 1 + 1) rfl 149 (mcC p a x mem) (0, 0) _ J6.out.j.km.blk Tryz.underlying149 rfl (mc_inf hl) ?_)
    | (refine wpList_store_blk rfl 149 (.tmp 6) (.tmp 65) rfl (w.heap.size + 1 + 1 + 1) _ (mcC p a x mem) 149 rfl rfl J6.out.kr (mc_size hl).symm (mc_inf hl) mc_one ?_; intro w9 hw9 hn9))
  refine bodyPost_ret (v := .tuple #[.agg (mcC p a x mem), .int .u32 (0), .bool true]) (results_row_two rfl _ _ (w.heap.size + 1 + 1 + 1) 149 (mcC p a x mem) (0, 0) _ rfl hw9.blk Tryz.underlying149 rfl (mc_inf hl) _ _ rfl rfl) rfl ?_
  exact ⟨rfl, (J6.out.out hn9 hw9).j.old⟩
set_option maxRecDepth 100000 in
set_option maxHeartbeats 4000000 in
theorem step_jump (c y z k : Int) (d : Dat) (hd : DatOk d) (p a x : Int) (mem : List Int) (hl : mem.length = 16) (hq : InsOk c y z k) (ha : U32 a) (hx : U32 x) (hp : 0 ≤ p ∧ p ≤ 1000) (hcl : c % 8 = 5) (f : Int) (hf : furI (c, y, z, k) a x = f) (hf0 : 0 ≤ f ∧ f ≤ 1000) (w : World) (hK : Kinds w) :
    Calls Tryz.prog 116 #[insV c y z k, datV d, .agg (mcC p a x mem)] w fun e w' => e = .returned (.tuple #[.agg (mcC (p + 1 + f) a x mem), .int .u32 0, .bool false]) ∧ Below w.heap.size w w' := by
  obtain ⟨hp0, hp1⟩ := hp
  have hb7 := bits_7 c hq.c0 hq.c1
  rw [hcl] at hb7
  have KM : Blk ((((w.alloc (.cells (celI (c, y, z, k)).toArray 111)).alloc (.cells (datC d) 64)).alloc (.cells (mcC p a x mem) 149)).alloc (.cells zerC 149)) (w.heap.size + 1 + 1) (mcC p a x mem) 149 := (Blk.new_ _ _ _ (by simp)).alloc _
  obtain ⟨hf0, hf1⟩ := hf0
  have HS := fun V hK => further_any (c, y, z, k) p a x mem hl hq ha hx V hK
  rw [hf] at HS
  simp only [valI, insV] at HS
  have S' := Lib.hid (calls_keep (S := fun V => SJ w V (c, y, z, k) d p a x mem zerC (mcC (p + 1) a x mem)) (fun V V' h hb => h.below hb) (fun V h => HS V h.j.kk))
  clear HS hf
  unfold insV datV
  go_enter Tryz.func116, Tryz.ntmps116
  go_wp2_with (first
    | (refine wpList_load_row rfl 149 (.tmp 5) rfl (w.heap.size + 1 + 1) rfl 149 (mcC p a x mem) (0, 0) _ KM.blk Tryz.underlying149 rfl (mc_inf hl) ?_)
    | (refine wpList_store_blk rfl 149 (.tmp 9) (.tmp 12) rfl (w.heap.size + 1 + 1 + 1 + 1) _ (mcC p a x mem) 149 rfl rfl (Blk.new_ _ _ _ (by simp)) (mc_size hl).symm (mc_inf hl) mc_one ?_
       intro w3 hw3 hn3
       have J3 := SJ.start (q := (c, y, z, k)) (d := d) (p := p) (a := a) (x := x) (mem := mem) hK hn3 hw3
       have J4 := Lib.hid (J3.set_ 0 (.int .i64 (p + 1)) (mc_s0 (p + 1)))
       have t0 := (J3.kt.cell 0).trans mc_0
       have f0 := J3.kt.frozen 0
       obtain ⟨i0, i1, i2, i3⟩ := J3.j.cells
       simp only at i0
       clear hn3 hw3 KM J3 i1 i2 i3))
  have JJ := J4.out
  rw [zer_lit] at JJ
  clear J4 t0 f0 i0
  generalize w3.setCell ⟨w.heap.size + 1 + 1 + 1 + 1, 0, none⟩ (.int .i64 (p + 1)) = V0 at JJ ⊢
  have J0 := JJ.drew
  have hS1 : ∀ s : Sig (fun V => SJ w V (c, y, z, k) d p a x mem zerC (mcC (p + 1) a x mem)), s.V.cell? ⟨w.heap.size, 0, none⟩ = some (.int .u16 c) := fun s => s.h.j.ki.cell 0
  have hS2 : ∀ s : Sig (fun V => SJ w V (c, y, z, k) d p a x mem zerC (mcC (p + 1) a x mem)), s.V.cell? ⟨w.heap.size + 1 + 1, 1, none⟩ = some (.int .u32 a) := fun s => (s.h.j.km.cell 1).trans mc_1
  have hS3 : ∀ s : Sig (fun V => SJ w V (c, y, z, k) d p a x mem zerC (mcC (p + 1) a x mem)), s.V.cell? ⟨w.heap.size + 1 + 1 + 1 + 1, 0, none⟩ = some (.int .i64 (p + 1)) := fun s => (s.h.kt.cell 0).trans mc_0
  have hne : Nonempty (Sig (fun V => SJ w V (c, y, z, k) d p a x mem zerC (mcC (p + 1) a x mem))) := ⟨⟨_, J0⟩⟩
  have s1 : IntKind.i64.wrap (p + 1 + f) = p + 1 + f := by rw [IntKind.wrap_i64]; omega
  refine region_class_tail (S := fun V => SJ w V (c, y, z, k) d p a x mem zerC (mcC (p + 1) a x mem)) 7 (by kernel_rfl) (by kernel_rfl) J0 ?_
  simp only [List.take_succ_cons, List.take_zero, List.drop_succ_cons, List.drop_zero]
  repeat (first
    | (refine class_load (by rfl) 111 (.tmp 3) rfl w.heap.size rfl (celI (c, y, z, k)).toArray 111 _ (fun _ h => h.j.ki) Tryz.underlying111 rfl (cel_inf _) ?_; simp only [celI, Act.put, List.setIfInBounds_toArray, List.set_cons_zero, List.set_cons_succ])
    | (refine class_load (by rfl) 149 (.tmp 5) rfl (w.heap.size + 1 + 1) rfl (mcC p a x mem) 149 _ (fun _ h => h.j.km) Tryz.underlying149 rfl (mc_inf hl) ?_; simp only [Act.put, List.setIfInBounds_toArray, List.set_cons_zero, List.set_cons_succ])
    | go_big_quiet_step (first | (go_at_call 134; exact class_call _ S'.out)))
  refine wpQuiet_nil ?_
  rintro ⟨V, J7⟩
  dsimp only
  clear hS1 hS2 hS3 hne J0 S' s1
  have c1 := (J7.kt.cell 0).trans mc_0
  have f1 := J7.kt.frozen 0
  have J6 := Lib.hid (J7.set_ 0 (.int .i64 (p + 1 + f)) (mc_s0 (p + 1 + f)))
  clear J7 JJ
  go_wp2_with (first
    | (refine wpList_load_row rfl 149 (.tmp 9) rfl (w.heap.size + 1 + 1 + 1 + 1) rfl 149 (mcC (p + 1 + f) a x mem) (0, 0) _ J6.out.kt.blk Tryz.underlying149 rfl (mc_inf hl) ?_)
    | (refine wpList_store_blk rfl 149 (.tmp 6) (.tmp 93) rfl (w.heap.size + 1 + 1 + 1) _ (mcC (p + 1 + f) a x mem) 149 rfl rfl J6.out.kr (mc_size hl).symm (mc_inf hl) mc_one ?_; intro w9 hw9 hn9))
  refine bodyPost_ret (v := .tuple #[.agg (mcC (p + 1 + f) a x mem), .int .u32 (0), .bool false]) (results_row_two rfl _ _ (w.heap.size + 1 + 1 + 1) 149 (mcC (p + 1 + f) a x mem) (0, 0) _ rfl hw9.blk Tryz.underlying149 rfl (mc_inf hl) _ _ rfl rfl) rfl ?_
  exact ⟨rfl, (J6.out.out hn9 hw9).j.old⟩
set_option maxRecDepth 100000 in
set_option maxHeartbeats 4000000 in
theorem step_ret (c y z k : Int) (d : Dat) (hd : DatOk d) (p a x : Int) (mem : List Int) (hl : mem.length = 16) (hq : InsOk c y z k) (ha : U32 a) (hx : U32 x) (hp : 0 ≤ p ∧ p ≤ 1000) (hcl : c % 8 = 6) (w : World) (hK : Kinds w) :
    Calls Tryz.prog 116 #[insV c y z k, datV d, .agg (mcC p a x mem)] w fun e w' => e = .returned (.tuple #[.agg (mcC p a x mem), .int .u32 (if formOf c = 1 then k else a), .bool true]) ∧ Below w.heap.size w w' := by
  obtain ⟨hp0, hp1⟩ := hp
  have hb7 := bits_7 c hq.c0 hq.c1
  rw [hcl] at hb7
  have KM : Blk ((((w.alloc (.cells (celI (c, y, z, k)).toArray 111)).alloc (.cells (datC d) 64)).alloc (.cells (mcC p a x mem) 149)).alloc (.cells zerC 149)) (w.heap.size + 1 + 1) (mcC p a x mem) 149 := (Blk.new_ _ _ _ (by simp)).alloc _
  have HS := fun V hK => given_any c y z k p a x mem V hK
  obtain ⟨v, hv⟩ : ∃ v, (if formOf c = 1 then k else a) = v := ⟨_, rfl⟩
  rw [hv] at HS ⊢
  simp only [insV] at HS
  have S' := Lib.hid (calls_keep (S := fun V => SJ w V (c, y, z, k) d p a x mem zerC (mcC (p + 1) a x mem)) (fun V V' h hb => h.below hb) (fun V h => HS V h.j.kk))
  clear HS hv
  unfold insV datV
  go_enter Tryz.func116, Tryz.ntmps116
  go_wp2_with (first
    | (refine wpList_load_row rfl 149 (.tmp 5) rfl (w.heap.size + 1 + 1) rfl 149 (mcC p a x mem) (0, 0) _ KM.blk Tryz.underlying149 rfl (mc_inf hl) ?_)
    | (refine wpList_store_blk rfl 149 (.tmp 9) (.tmp 12) rfl (w.heap.size + 1 + 1 + 1 + 1) _ (mcC p a x mem) 149 rfl rfl (Blk.new_ _ _ _ (by simp)) (mc_size hl).symm (mc_inf hl) mc_one ?_
       intro w3 hw3 hn3
       have J3 := SJ.start (q := (c, y, z, k)) (d := d) (p := p) (a := a) (x := x) (mem := mem) hK hn3 hw3
       have J4 := Lib.hid (J3.set_ 0 (.int .i64 (p + 1)) (mc_s0 (p + 1)))
       have t0 := (J3.kt.cell 0).trans mc_0
       have f0 := J3.kt.frozen 0
       obtain ⟨i0, i1, i2, i3⟩ := J3.j.cells
       simp only at i0
       clear hn3 hw3 KM J3 i1 i2 i3))
  have JJ := J4.out
  rw [zer_lit] at JJ
  clear J4 t0 f0 i0
  generalize w3.setCell ⟨w.heap.size + 1 + 1 + 1 + 1, 0, none⟩ (.int .i64 (p + 1)) = V0 at JJ ⊢
  have J0 := JJ.drew
  have hS1 : ∀ s : Sig (fun V => SJ w V (c, y, z, k) d p a x mem zerC (mcC (p + 1) a x mem)), s.V.cell? ⟨w.heap.size, 0, none⟩ = some (.int .u16 c) := fun s => s.h.j.ki.cell 0
  have hS2 : ∀ s : Sig (fun V => SJ w V (c, y, z, k) d p a x mem zerC (mcC (p + 1) a x mem)), s.V.cell? ⟨w.heap.size + 1 + 1, 1, none⟩ = some (.int .u32 a) := fun s => (s.h.j.km.cell 1).trans mc_1
  have hS3 : ∀ s : Sig (fun V => SJ w V (c, y, z, k) d p a x mem zerC (mcC (p + 1) a x mem)), s.V.cell? ⟨w.heap.size + 1 + 1 + 1 + 1, 0, none⟩ = some (.int .i64 (p + 1)) := fun s => (s.h.kt.cell 0).trans mc_0
  have hne : Nonempty (Sig (fun V => SJ w V (c, y, z, k) d p a x mem zerC (mcC (p + 1) a x mem))) := ⟨⟨_, J0⟩⟩
  refine region_class_tail (S := fun V => SJ w V (c, y, z, k) d p a x mem zerC (mcC (p + 1) a x mem)) 4 (by kernel_rfl) (by kernel_rfl) J0 ?_
  simp only [List.take_succ_cons, List.take_zero, List.drop_succ_cons, List.drop_zero]
  repeat (first
    | (refine class_load (by rfl) 111 (.tmp 3) rfl w.heap.size rfl (celI (c, y, z, k)).toArray 111 _ (fun _ h => h.j.ki) Tryz.underlying111 rfl (cel_inf _) ?_; simp only [celI, Act.put, List.setIfInBounds_toArray, List.set_cons_zero, List.set_cons_succ])
    | (refine class_load (by rfl) 149 (.tmp 5) rfl (w.heap.size + 1 + 1) rfl (mcC p a x mem) 149 _ (fun _ h => h.j.km) Tryz.underlying149 rfl (mc_inf hl) ?_; simp only [Act.put, List.setIfInBounds_toArray, List.set_cons_zero, List.set_cons_succ])
    | go_big_quiet_step (first | (go_at_call 135; exact class_call _ S'.out)))
  refine wpQuiet_nil ?_
  rintro ⟨V, J7⟩
  dsimp only
  clear hS1 hS2 hS3 hne J0 S'
  have J6 := Lib.hid J7
  clear J7 JJ
  go_wp2_with (first
    | (refine wpList_store_blk rfl 149 (.tmp 6) (.tmp 79) rfl (w.heap.size + 1 + 1 + 1) _ (mcC p a x mem) 149 rfl rfl J6.out.kr (mc_size hl).symm (mc_inf hl) mc_one ?_; intro w9 hw9 hn9))
  refine bodyPost_ret (v := .tuple #[.agg (mcC p a x mem), .int .u32 (v), .bool true]) (results_row_two rfl _ _ (w.heap.size + 1 + 1 + 1) 149 (mcC p a x mem) (0, 0) _ rfl hw9.blk Tryz.underlying149 rfl (mc_inf hl) _ _ rfl rfl) rfl ?_
  exact ⟨rfl, (J6.out.out hn9 hw9).j.old⟩
end Go.Proofs.YtelfdpcenplhjaaGreatDoor
