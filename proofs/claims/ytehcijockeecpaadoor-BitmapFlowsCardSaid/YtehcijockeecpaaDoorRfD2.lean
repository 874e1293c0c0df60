/-
  The reference's Do, walked. (gen8/gendo.py)
-/
import Derived.Test.YtehcijockeecpaaDoorRfD0
namespace Go.Proofs.YtehcijockeecpaaDoor
open Go.RowKit
set_option linter.unusedVariables false
set_option linter.unusedSimpArgs false

set_option maxRecDepth 100000 in
set_option maxHeartbeats 4000000 in
theorem do_129 (y z k : Int) (i : Nat) (hi : i < 64) (hq : insO (129, y, z, k)) (s : StS) (hs : StOk s) (nr arch : Int) (w : World) :
    Calls Tryd.prog 27 #[insV 129 y z k, .int .i64 i, stV s, .int .u32 nr, .int .u32 arch] w fun e w' => ∃ P R, e = .returned (.agg (nxC P ({ s with x := sureA 64 }) R)) ∧ PL w' P ([(i : Int) + 1]) ∧ RL w' R ([]) ∧ Below w.heap.size w w' := by
  have hl := hs.len
  have hsz := st_size hl
  have OV := fun V => of_raw 64 V
  have hi' : (i : Int) < 64 := by omega
  have ki := ((Blk.new w (celI (129, y, z, k)).toArray 51).alloc (.cells (stC s) 40)).alloc (.cells nxZ 72)
  have ks := (Blk.new_ (w.alloc (.cells (celI (129, y, z, k)).toArray 51)) (stC s) 40 (n := w.heap.size + 1) (by simp)).alloc (.cells nxZ 72)
  have kz := Blk.new_ ((w.alloc (.cells (celI (129, y, z, k)).toArray 51)).alloc (.cells (stC s) 40)) nxZ 72 (n := w.heap.size + 1 + 1) (by simp)
  have B0 := (((Below.refl w.heap.size w).alloc (Nat.le_refl _) (.cells (celI (129, y, z, k)).toArray 51)).alloc (by simp) (.cells (stC s) 40)).alloc (by simp; omega) (.cells nxZ 72)
  have N := fun V => refname_any 129 V (by decide)
  rw [show nameOf 129 = (⟨#[108, 100, 120, 46, 108, 101, 110]⟩, true) by kernel_rfl] at N
  have SP := fun V => split_any [108, 100, 120, 46, 108, 101, 110] (by decide) V
  rw [show headOf [108, 100, 120, 46, 108, 101, 110] = [108, 100, 120] by decide, show tailOf [108, 100, 120, 46, 108, 101, 110] = [108, 101, 110] by decide] at SP
  have OK := fun V => of_raw k V
  unfold insV stV
  go_enter Tryd.func27, Tryd.ntmps27
  go_wp2_with fail
  refine (N _).mono ?_
  rintro e w3 ⟨rfl, b3⟩
  have ki3 := ki.below b3 ki.lt
  have ks3 := ks.below b3 ks.lt
  have kz3 := kz.below b3 kz.lt
  have B3 := B0.trans (b3.mono B0.size)
  clear ki ks kz B0 b3 N
  go_wp2_with fail
  refine (SP _).mono ?_
  rintro e w4 ⟨rfl, b4⟩
  have ki4 := ki3.below b4 ki3.lt
  have ks4 := ks3.below b4 ks3.lt
  have kz4 := kz3.below b4 kz3.lt
  have B4 := B3.trans (b4.mono B3.size)
  have hz4 := kz4.lt
  clear ki3 ks3 kz3 B3 b4 SP
  go_wp2_with (first
    | (refine wpList_store_blk rfl 27 (.tmp 15) (.tmp 33) rfl w4.heap.size _ (abA ab0) 27 rfl rfl (Blk.new_ _ _ _ rfl) rfl (abA_inf _) (abA_one _) ?_
       intro w5 h5 n5
       have J5 : D1 w w5 (129, y, z, k) s w4.heap.size ab0 := ⟨n5.blk' (ki4.alloc _) (by omega), n5.blk' (ks4.alloc _) (by omega), n5.blk' (kz4.alloc _) (by omega), h5, hz4, (B4.alloc B4.size _).trans (n5.below _ B4.size (by simp; have := B4.size; omega))⟩
       clear h5 n5 ki4 ks4 kz4 B4 hz4
       obtain ⟨i0, i1, i2, i3, s1, s2, s3, s4, v0, v1⟩ := J5.facts))
  refine (OV _).mono ?_
  rintro e w5b ⟨rfl, b5b⟩
  have J5b := J5.below b5b
  clear J5 b5b i0 i1 i2 i3 s1 s2 s3 s4 v0 v1
  go_wp2_with (refine wpList_store_blk rfl 27 (.tmp 15) (.tmp 54) rfl w4.heap.size _ (abA (sureA 64)) 27 rfl rfl J5b.kv rfl (abA_inf _) (abA_one _) ?_
               intro w5c h5c n5c
               have J5c := J5b.put h5c n5c
               clear h5c n5c J5b
               obtain ⟨i0, i1, i2, i3, s1, s2, s3, s4, v0, v1⟩ := J5c.facts)
  generalize w4.heap.size = gv at *
  refine (OK _).mono ?_
  rintro e w6 ⟨rfl, b6⟩
  have J6 := J5c.below b6
  clear J5c b6 i0 i1 i2 i3 s1 s2 s3 s4 v0 v1 OK
  have hgv := J6.kv.lt
  go_wp2_with (first
    | (refine wpList_store_blk rfl 27 (.tmp 16) (.tmp 69) rfl w6.heap.size _ (abA (sureA k)) 27 rfl rfl (Blk.new_ _ _ _ rfl) rfl (abA_inf _) (abA_one _) ?_
       intro w7 h7 n7
       have J7 : D2 w w7 (129, y, z, k) s gv (sureA 64) w6.heap.size (sureA k) := ⟨J6.below (((Below.refl _ w6).alloc (Nat.le_refl _) _).trans (n7.below _ (Nat.le_refl _) (by simp))), h7, hgv⟩
       clear h7 n7 J6 hgv
       obtain ⟨i0, i1, i2, i3, s1, s2, s3, s4, v0, v1⟩ := J7.d.facts
       obtain ⟨o0, o1⟩ := J7.facts)
    | (refine wpList_load_row rfl 40 (.tmp 7) rfl (w.heap.size + 1) rfl 40 (stC s) (0, 0) _ (J7.d.ks.alloc _).blk Tryd.underlying40 rfl (st_inf hl) ?_)
    | (refine wpList_store_blk rfl 72 (.tmp 17) (.tmp 78) rfl (w7.heap.size + 1) nxZ (nxC (.slice (some ⟨w7.heap.size, 0, none⟩) 1 1) s nil0) 72 rfl (congrArg Value.agg (nx_build7 hl _)) (Blk.new_ _ nxZ _ (by simp)) (nxz_size.trans (nx_size hl).symm) (nx_inf hl) nx_one ?_
       intro w8 h8 n8
       have b8 : Below w7.heap.size w7 w8 := (((Below.refl _ w7).alloc (Nat.le_refl _) _).alloc (by simp) _).trans (n8.below _ (by omega) (by simp; omega))
       have hgo := J7.ko.lt
       have hgv := J7.ho
       have hvv := J7.d.hv
       have hlt : w.heap.size + 1 + 1 < w7.heap.size := by omega
       have J8 : D3 w w8 (129, y, z, k) s gv (sureA 64) w6.heap.size (sureA k) (w7.heap.size + 1) (nxC (.slice (some ⟨w7.heap.size, 0, none⟩) 1 1) s nil0) := ⟨J7.below b8, h8, by omega⟩
       have kp : Blk w8 w7.heap.size #[.int .i64 ((i : Int) + 1)] 3 := n8.blk' ((Blk.new w7 _ _).alloc _) (by omega)
       clear h8 n8 b8 J7 hgo hgv hvv i0 i1 i2 i3 s1 s2 s3 s4 v0 v1 o0 o1
       obtain ⟨i0, i1, i2, i3, s1, s2, s3, s4, v0, v1⟩ := J8.d.d.facts
       obtain ⟨o0, o1⟩ := J8.d.facts)
    | (refine wpList_store_ab rfl 27 (.tmp 133) (.tmp 131) rfl (w7.heap.size + 1) 4 (nxC (.slice (some ⟨w7.heap.size, 0, none⟩) 1 1) s nil0) 72 (sureA 64) _ rfl rfl J8.kn (by rw [nx_size hl]; omega) ab_inf (nx_sx hl (sureA 64)) ?_
       intro w9 h9 n9
       have J9 := J8.put h9 n9
       have kp9 := n9.blk' kp (by omega)
       clear h9 n9 J8 kp i0 i1 i2 i3 s1 s2 s3 s4 v0 v1 o0 o1)
    | (refine wpList_load_row rfl 72 (.tmp 17) rfl (w7.heap.size + 1) rfl 72 (nxC (.slice (some ⟨w7.heap.size, 0, none⟩) 1 1) ({ s with x := sureA 64 }) nil0) (0, 0) _ J9.kn.blk Tryd.underlying72 rfl (nx_inf (t := { s with x := sureA 64 }) hl) ?_)
    | (refine wpList_store_blk rfl 72 (.tmp 10) (.tmp 245) rfl (w.heap.size + 1 + 1) nxZ (nxC (.slice (some ⟨w7.heap.size, 0, none⟩) 1 1) ({ s with x := sureA 64 }) nil0) 72 rfl rfl J9.d.d.kz (nxz_size.trans (nx_size (t := { s with x := sureA 64 }) hl).symm) (nx_inf (t := { s with x := sureA 64 }) hl) nx_one ?_; intro wz hz nz))
  refine bodyPost_ret (v := .agg (nxC (.slice (some ⟨w7.heap.size, 0, none⟩) 1 1) ({ s with x := sureA 64 }) nil0)) (results_cell_row rfl _ wz (w.heap.size + 1 + 1) 72 (nxC (.slice (some ⟨w7.heap.size, 0, none⟩) 1 1) ({ s with x := sureA 64 }) nil0) (0, 0) _ rfl hz.blk Tryd.underlying72 rfl (nx_inf (t := { s with x := sureA 64 }) hl)) rfl ?_
  exact ⟨_, _, rfl, .inr ⟨_, rfl, nz.blk' kp9 (by omega)⟩, .inl ⟨rfl, rfl⟩, J9.d.d.old.trans (nz.below _ (by omega) J9.d.d.old.size)⟩
set_option maxRecDepth 100000 in
set_option maxHeartbeats 4000000 in
theorem do_32a (y z k : Int) (i : Nat) (hi : i < 64) (hq : insO (32, y, z, k)) (s : StS) (hs : StOk s) (nr arch : Int) (w : World) (hk : k = 0) :
    Calls Tryd.prog 27 #[insV 32 y z k, .int .i64 i, stV s, .int .u32 nr, .int .u32 arch] w fun e w' => ∃ P R, e = .returned (.agg (nxC P ({ s with a := sureA nr }) R)) ∧ PL w' P ([(i : Int) + 1]) ∧ RL w' R ([]) ∧ Below w.heap.size w w' := by
  have hl := hs.len
  have hsz := st_size hl
  subst hk
  have hi' : (i : Int) < 64 := by omega
  have ki := ((Blk.new w (celI (32, y, z, 0)).toArray 51).alloc (.cells (stC s) 40)).alloc (.cells nxZ 72)
  have ks := (Blk.new_ (w.alloc (.cells (celI (32, y, z, 0)).toArray 51)) (stC s) 40 (n := w.heap.size + 1) (by simp)).alloc (.cells nxZ 72)
  have kz := Blk.new_ ((w.alloc (.cells (celI (32, y, z, 0)).toArray 51)).alloc (.cells (stC s) 40)) nxZ 72 (n := w.heap.size + 1 + 1) (by simp)
  have B0 := (((Below.refl w.heap.size w).alloc (Nat.le_refl _) (.cells (celI (32, y, z, 0)).toArray 51)).alloc (by simp) (.cells (stC s) 40)).alloc (by simp; omega) (.cells nxZ 72)
  have N := fun V => refname_any 32 V (by decide)
  rw [show nameOf 32 = (⟨#[108, 100, 46, 97, 98, 115]⟩, true) by kernel_rfl] at N
  have SP := fun V => split_any [108, 100, 46, 97, 98, 115] (by decide) V
  rw [show headOf [108, 100, 46, 97, 98, 115] = [108, 100] by decide, show tailOf [108, 100, 46, 97, 98, 115] = [97, 98, 115] by decide] at SP
  have OK := fun V => of_raw 0 V
  unfold insV stV
  go_enter Tryd.func27, Tryd.ntmps27
  go_wp2_with fail
  refine (N _).mono ?_
  rintro e w3 ⟨rfl, b3⟩
  have ki3 := ki.below b3 ki.lt
  have ks3 := ks.below b3 ks.lt
  have kz3 := kz.below b3 kz.lt
  have B3 := B0.trans (b3.mono B0.size)
  clear ki ks kz B0 b3 N
  go_wp2_with fail
  refine (SP _).mono ?_
  rintro e w4 ⟨rfl, b4⟩
  have ki4 := ki3.below b4 ki3.lt
  have ks4 := ks3.below b4 ks3.lt
  have kz4 := kz3.below b4 kz3.lt
  have B4 := B3.trans (b4.mono B3.size)
  have hz4 := kz4.lt
  clear ki3 ks3 kz3 B3 b4 SP
  go_wp2_with (first
    | (refine wpList_store_blk rfl 27 (.tmp 15) (.tmp 33) rfl w4.heap.size _ (abA ab0) 27 rfl rfl (Blk.new_ _ _ _ rfl) rfl (abA_inf _) (abA_one _) ?_
       intro w5 h5 n5
       have J5 : D1 w w5 (32, y, z, 0) s w4.heap.size ab0 := ⟨n5.blk' (ki4.alloc _) (by omega), n5.blk' (ks4.alloc _) (by omega), n5.blk' (kz4.alloc _) (by omega), h5, hz4, (B4.alloc B4.size _).trans (n5.below _ B4.size (by simp; have := B4.size; omega))⟩
       clear h5 n5 ki4 ks4 kz4 B4 hz4
       obtain ⟨i0, i1, i2, i3, s1, s2, s3, s4, v0, v1⟩ := J5.facts))
  refine ((fun V => of_raw nr V) _).mono ?_
  rintro e w5b ⟨rfl, b5b⟩
  have J5b := J5.below b5b
  clear J5 b5b i0 i1 i2 i3 s1 s2 s3 s4 v0 v1
  go_wp2_with (refine wpList_store_blk rfl 27 (.tmp 15) (.tmp 42) rfl w4.heap.size _ (abA (sureA nr)) 27 rfl rfl J5b.kv rfl (abA_inf _) (abA_one _) ?_
               intro w5c h5c n5c
               have J5c := J5b.put h5c n5c
               clear h5c n5c J5b
               obtain ⟨i0, i1, i2, i3, s1, s2, s3, s4, v0, v1⟩ := J5c.facts)
  generalize w4.heap.size = gv at *
  refine (OK _).mono ?_
  rintro e w6 ⟨rfl, b6⟩
  have J6 := J5c.below b6
  clear J5c b6 i0 i1 i2 i3 s1 s2 s3 s4 v0 v1 OK
  have hgv := J6.kv.lt
  go_wp2_with (first
    | (refine wpList_store_blk rfl 27 (.tmp 16) (.tmp 69) rfl w6.heap.size _ (abA (sureA 0)) 27 rfl rfl (Blk.new_ _ _ _ rfl) rfl (abA_inf _) (abA_one _) ?_
       intro w7 h7 n7
       have J7 : D2 w w7 (32, y, z, 0) s gv (sureA nr) w6.heap.size (sureA 0) := ⟨J6.below (((Below.refl _ w6).alloc (Nat.le_refl _) _).trans (n7.below _ (Nat.le_refl _) (by simp))), h7, hgv⟩
       clear h7 n7 J6 hgv
       obtain ⟨i0, i1, i2, i3, s1, s2, s3, s4, v0, v1⟩ := J7.d.facts
       obtain ⟨o0, o1⟩ := J7.facts)
    | (refine wpList_load_row rfl 40 (.tmp 7) rfl (w.heap.size + 1) rfl 40 (stC s) (0, 0) _ (J7.d.ks.alloc _).blk Tryd.underlying40 rfl (st_inf hl) ?_)
    | (refine wpList_store_blk rfl 72 (.tmp 17) (.tmp 78) rfl (w7.heap.size + 1) nxZ (nxC (.slice (some ⟨w7.heap.size, 0, none⟩) 1 1) s nil0) 72 rfl (congrArg Value.agg (nx_build7 hl _)) (Blk.new_ _ nxZ _ (by simp)) (nxz_size.trans (nx_size hl).symm) (nx_inf hl) nx_one ?_
       intro w8 h8 n8
       have b8 : Below w7.heap.size w7 w8 := (((Below.refl _ w7).alloc (Nat.le_refl _) _).alloc (by simp) _).trans (n8.below _ (by omega) (by simp; omega))
       have hgo := J7.ko.lt
       have hgv := J7.ho
       have hvv := J7.d.hv
       have hlt : w.heap.size + 1 + 1 < w7.heap.size := by omega
       have J8 : D3 w w8 (32, y, z, 0) s gv (sureA nr) w6.heap.size (sureA 0) (w7.heap.size + 1) (nxC (.slice (some ⟨w7.heap.size, 0, none⟩) 1 1) s nil0) := ⟨J7.below b8, h8, by omega⟩
       have kp : Blk w8 w7.heap.size #[.int .i64 ((i : Int) + 1)] 3 := n8.blk' ((Blk.new w7 _ _).alloc _) (by omega)
       clear h8 n8 b8 J7 hgo hgv hvv i0 i1 i2 i3 s1 s2 s3 s4 v0 v1 o0 o1
       obtain ⟨i0, i1, i2, i3, s1, s2, s3, s4, v0, v1⟩ := J8.d.d.facts
       obtain ⟨o0, o1⟩ := J8.d.facts)
    | (refine wpList_store_ab rfl 27 (.tmp 128) (.tmp 126) rfl (w7.heap.size + 1) 2 (nxC (.slice (some ⟨w7.heap.size, 0, none⟩) 1 1) s nil0) 72 (sureA nr) _ rfl rfl J8.kn (by rw [nx_size hl]; omega) ab_inf (nx_sa hl (sureA nr)) ?_
       intro w9 h9 n9
       have J9 := J8.put h9 n9
       have kp9 := n9.blk' kp (by omega)
       clear h9 n9 J8 kp i0 i1 i2 i3 s1 s2 s3 s4 v0 v1 o0 o1)
    | (refine wpList_load_row rfl 72 (.tmp 17) rfl (w7.heap.size + 1) rfl 72 (nxC (.slice (some ⟨w7.heap.size, 0, none⟩) 1 1) ({ s with a := sureA nr }) nil0) (0, 0) _ J9.kn.blk Tryd.underlying72 rfl (nx_inf (t := { s with a := sureA nr }) hl) ?_)
    | (refine wpList_store_blk rfl 72 (.tmp 10) (.tmp 245) rfl (w.heap.size + 1 + 1) nxZ (nxC (.slice (some ⟨w7.heap.size, 0, none⟩) 1 1) ({ s with a := sureA nr }) nil0) 72 rfl rfl J9.d.d.kz (nxz_size.trans (nx_size (t := { s with a := sureA nr }) hl).symm) (nx_inf (t := { s with a := sureA nr }) hl) nx_one ?_; intro wz hz nz))
  refine bodyPost_ret (v := .agg (nxC (.slice (some ⟨w7.heap.size, 0, none⟩) 1 1) ({ s with a := sureA nr }) nil0)) (results_cell_row rfl _ wz (w.heap.size + 1 + 1) 72 (nxC (.slice (some ⟨w7.heap.size, 0, none⟩) 1 1) ({ s with a := sureA nr }) nil0) (0, 0) _ rfl hz.blk Tryd.underlying72 rfl (nx_inf (t := { s with a := sureA nr }) hl)) rfl ?_
  exact ⟨_, _, rfl, .inr ⟨_, rfl, nz.blk' kp9 (by omega)⟩, .inl ⟨rfl, rfl⟩, J9.d.d.old.trans (nz.below _ (by omega) J9.d.d.old.size)⟩
set_option maxRecDepth 100000 in
set_option maxHeartbeats 4000000 in
theorem do_32b (y z k : Int) (i : Nat) (hi : i < 64) (hq : insO (32, y, z, k)) (s : StS) (hs : StOk s) (nr arch : Int) (w : World) (hk : k = 4) :
    Calls Tryd.prog 27 #[insV 32 y z k, .int .i64 i, stV s, .int .u32 nr, .int .u32 arch] w fun e w' => ∃ P R, e = .returned (.agg (nxC P ({ s with a := sureA arch }) R)) ∧ PL w' P ([(i : Int) + 1]) ∧ RL w' R ([]) ∧ Below w.heap.size w w' := by
  have hl := hs.len
  have hsz := st_size hl
  subst hk
  have hi' : (i : Int) < 64 := by omega
  have ki := ((Blk.new w (celI (32, y, z, 4)).toArray 51).alloc (.cells (stC s) 40)).alloc (.cells nxZ 72)
  have ks := (Blk.new_ (w.alloc (.cells (celI (32, y, z, 4)).toArray 51)) (stC s) 40 (n := w.heap.size + 1) (by simp)).alloc (.cells nxZ 72)
  have kz := Blk.new_ ((w.alloc (.cells (celI (32, y, z, 4)).toArray 51)).alloc (.cells (stC s) 40)) nxZ 72 (n := w.heap.size + 1 + 1) (by simp)
  have B0 := (((Below.refl w.heap.size w).alloc (Nat.le_refl _) (.cells (celI (32, y, z, 4)).toArray 51)).alloc (by simp) (.cells (stC s) 40)).alloc (by simp; omega) (.cells nxZ 72)
  have N := fun V => refname_any 32 V (by decide)
  rw [show nameOf 32 = (⟨#[108, 100, 46, 97, 98, 115]⟩, true) by kernel_rfl] at N
  have SP := fun V => split_any [108, 100, 46, 97, 98, 115] (by decide) V
  rw [show headOf [108, 100, 46, 97, 98, 115] = [108, 100] by decide, show tailOf [108, 100, 46, 97, 98, 115] = [97, 98, 115] by decide] at SP
  have OK := fun V => of_raw 4 V
  unfold insV stV
  go_enter Tryd.func27, Tryd.ntmps27
  go_wp2_with fail
  refine (N _).mono ?_
  rintro e w3 ⟨rfl, b3⟩
  have ki3 := ki.below b3 ki.lt
  have ks3 := ks.below b3 ks.lt
  have kz3 := kz.below b3 kz.lt
  have B3 := B0.trans (b3.mono B0.size)
  clear ki ks kz B0 b3 N
  go_wp2_with fail
  refine (SP _).mono ?_
  rintro e w4 ⟨rfl, b4⟩
  have ki4 := ki3.below b4 ki3.lt
  have ks4 := ks3.below b4 ks3.lt
  have kz4 := kz3.below b4 kz3.lt
  have B4 := B3.trans (b4.mono B3.size)
  have hz4 := kz4.lt
  clear ki3 ks3 kz3 B3 b4 SP
  go_wp2_with (first
    | (refine wpList_store_blk rfl 27 (.tmp 15) (.tmp 33) rfl w4.heap.size _ (abA ab0) 27 rfl rfl (Blk.new_ _ _ _ rfl) rfl (abA_inf _) (abA_one _) ?_
       intro w5 h5 n5
       have J5 : D1 w w5 (32, y, z, 4) s w4.heap.size ab0 := ⟨n5.blk' (ki4.alloc _) (by omega), n5.blk' (ks4.alloc _) (by omega), n5.blk' (kz4.alloc _) (by omega), h5, hz4, (B4.alloc B4.size _).trans (n5.below _ B4.size (by simp; have := B4.size; omega))⟩
       clear h5 n5 ki4 ks4 kz4 B4 hz4
       obtain ⟨i0, i1, i2, i3, s1, s2, s3, s4, v0, v1⟩ := J5.facts))
  refine ((fun V => of_raw arch V) _).mono ?_
  rintro e w5b ⟨rfl, b5b⟩
  have J5b := J5.below b5b
  clear J5 b5b i0 i1 i2 i3 s1 s2 s3 s4 v0 v1
  go_wp2_with (refine wpList_store_blk rfl 27 (.tmp 15) (.tmp 51) rfl w4.heap.size _ (abA (sureA arch)) 27 rfl rfl J5b.kv rfl (abA_inf _) (abA_one _) ?_
               intro w5c h5c n5c
               have J5c := J5b.put h5c n5c
               clear h5c n5c J5b
               obtain ⟨i0, i1, i2, i3, s1, s2, s3, s4, v0, v1⟩ := J5c.facts)
  generalize w4.heap.size = gv at *
  refine (OK _).mono ?_
  rintro e w6 ⟨rfl, b6⟩
  have J6 := J5c.below b6
  clear J5c b6 i0 i1 i2 i3 s1 s2 s3 s4 v0 v1 OK
  have hgv := J6.kv.lt
  go_wp2_with (first
    | (refine wpList_store_blk rfl 27 (.tmp 16) (.tmp 69) rfl w6.heap.size _ (abA (sureA 4)) 27 rfl rfl (Blk.new_ _ _ _ rfl) rfl (abA_inf _) (abA_one _) ?_
       intro w7 h7 n7
       have J7 : D2 w w7 (32, y, z, 4) s gv (sureA arch) w6.heap.size (sureA 4) := ⟨J6.below (((Below.refl _ w6).alloc (Nat.le_refl _) _).trans (n7.below _ (Nat.le_refl _) (by simp))), h7, hgv⟩
       clear h7 n7 J6 hgv
       obtain ⟨i0, i1, i2, i3, s1, s2, s3, s4, v0, v1⟩ := J7.d.facts
       obtain ⟨o0, o1⟩ := J7.facts)
    | (refine wpList_load_row rfl 40 (.tmp 7) rfl (w.heap.size + 1) rfl 40 (stC s) (0, 0) _ (J7.d.ks.alloc _).blk Tryd.underlying40 rfl (st_inf hl) ?_)
    | (refine wpList_store_blk rfl 72 (.tmp 17) (.tmp 78) rfl (w7.heap.size + 1) nxZ (nxC (.slice (some ⟨w7.heap.size, 0, none⟩) 1 1) s nil0) 72 rfl (congrArg Value.agg (nx_build7 hl _)) (Blk.new_ _ nxZ _ (by simp)) (nxz_size.trans (nx_size hl).symm) (nx_inf hl) nx_one ?_
       intro w8 h8 n8
       have b8 : Below w7.heap.size w7 w8 := (((Below.refl _ w7).alloc (Nat.le_refl _) _).alloc (by simp) _).trans (n8.below _ (by omega) (by simp; omega))
       have hgo := J7.ko.lt
       have hgv := J7.ho
       have hvv := J7.d.hv
       have hlt : w.heap.size + 1 + 1 < w7.heap.size := by omega
       have J8 : D3 w w8 (32, y, z, 4) s gv (sureA arch) w6.heap.size (sureA 4) (w7.heap.size + 1) (nxC (.slice (some ⟨w7.heap.size, 0, none⟩) 1 1) s nil0) := ⟨J7.below b8, h8, by omega⟩
       have kp : Blk w8 w7.heap.size #[.int .i64 ((i : Int) + 1)] 3 := n8.blk' ((Blk.new w7 _ _).alloc _) (by omega)
       clear h8 n8 b8 J7 hgo hgv hvv i0 i1 i2 i3 s1 s2 s3 s4 v0 v1 o0 o1
       obtain ⟨i0, i1, i2, i3, s1, s2, s3, s4, v0, v1⟩ := J8.d.d.facts
       obtain ⟨o0, o1⟩ := J8.d.facts)
    | (refine wpList_store_ab rfl 27 (.tmp 128) (.tmp 126) rfl (w7.heap.size + 1) 2 (nxC (.slice (some ⟨w7.heap.size, 0, none⟩) 1 1) s nil0) 72 (sureA arch) _ rfl rfl J8.kn (by rw [nx_size hl]; omega) ab_inf (nx_sa hl (sureA arch)) ?_
       intro w9 h9 n9
       have J9 := J8.put h9 n9
       have kp9 := n9.blk' kp (by omega)
       clear h9 n9 J8 kp i0 i1 i2 i3 s1 s2 s3 s4 v0 v1 o0 o1)
    | (refine wpList_load_row rfl 72 (.tmp 17) rfl (w7.heap.size + 1) rfl 72 (nxC (.slice (some ⟨w7.heap.size, 0, none⟩) 1 1) ({ s with a := sureA arch }) nil0) (0, 0) _ J9.kn.blk Tryd.underlying72 rfl (nx_inf (t := { s with a := sureA arch }) hl) ?_)
    | (refine wpList_store_blk rfl 72 (.tmp 10) (.tmp 245) rfl (w.heap.size + 1 + 1) nxZ (nxC (.slice (some ⟨w7.heap.size, 0, none⟩) 1 1) ({ s with a := sureA arch }) nil0) 72 rfl rfl J9.d.d.kz (nxz_size.trans (nx_size (t := { s with a := sureA arch }) hl).symm) (nx_inf (t := { s with a := sureA arch }) hl) nx_one ?_; intro wz hz nz))
  refine bodyPost_ret (v := .agg (nxC (.slice (some ⟨w7.heap.size, 0, none⟩) 1 1) ({ s with a := sureA arch }) nil0)) (results_cell_row rfl _ wz (w.heap.size + 1 + 1) 72 (nxC (.slice (some ⟨w7.heap.size, 0, none⟩) 1 1) ({ s with a := sureA arch }) nil0) (0, 0) _ rfl hz.blk Tryd.underlying72 rfl (nx_inf (t := { s with a := sureA arch }) hl)) rfl ?_
  exact ⟨_, _, rfl, .inr ⟨_, rfl, nz.blk' kp9 (by omega)⟩, .inl ⟨rfl, rfl⟩, J9.d.d.old.trans (nz.below _ (by omega) J9.d.d.old.size)⟩
set_option maxRecDepth 100000 in
set_option maxHeartbeats 4000000 in
theorem do_32c (y z k : Int) (i : Nat) (hi : i < 64) (hq : insO (32, y, z, k)) (s : StS) (hs : StOk s) (nr arch : Int) (w : World) (hk : ¬ k = 0 ∧ ¬ k = 4) :
    Calls Tryd.prog 27 #[insV 32 y z k, .int .i64 i, stV s, .int .u32 nr, .int .u32 arch] w fun e w' => ∃ P R, e = .returned (.agg (nxC P ({ s with a := ab0 }) R)) ∧ PL w' P ([(i : Int) + 1]) ∧ RL w' R ([]) ∧ Below w.heap.size w w' := by
  have hl := hs.len
  have hsz := st_size hl
  have hk0 : (k == 0) = false := by simpa using hk.1
  have hk4 : (k == 4) = false := by simpa using hk.2
  have hi' : (i : Int) < 64 := by omega
  have ki := ((Blk.new w (celI (32, y, z, k)).toArray 51).alloc (.cells (stC s) 40)).alloc (.cells nxZ 72)
  have ks := (Blk.new_ (w.alloc (.cells (celI (32, y, z, k)).toArray 51)) (stC s) 40 (n := w.heap.size + 1) (by simp)).alloc (.cells nxZ 72)
  have kz := Blk.new_ ((w.alloc (.cells (celI (32, y, z, k)).toArray 51)).alloc (.cells (stC s) 40)) nxZ 72 (n := w.heap.size + 1 + 1) (by simp)
  have B0 := (((Below.refl w.heap.size w).alloc (Nat.le_refl _) (.cells (celI (32, y, z, k)).toArray 51)).alloc (by simp) (.cells (stC s) 40)).alloc (by simp; omega) (.cells nxZ 72)
  have N := fun V => refname_any 32 V (by decide)
  rw [show nameOf 32 = (⟨#[108, 100, 46, 97, 98, 115]⟩, true) by kernel_rfl] at N
  have SP := fun V => split_any [108, 100, 46, 97, 98, 115] (by decide) V
  rw [show headOf [108, 100, 46, 97, 98, 115] = [108, 100] by decide, show tailOf [108, 100, 46, 97, 98, 115] = [97, 98, 115] by decide] at SP
  have OK := fun V => of_raw k V
  unfold insV stV
  go_enter Tryd.func27, Tryd.ntmps27
  go_wp2_with fail
  refine (N _).mono ?_
  rintro e w3 ⟨rfl, b3⟩
  have ki3 := ki.below b3 ki.lt
  have ks3 := ks.below b3 ks.lt
  have kz3 := kz.below b3 kz.lt
  have B3 := B0.trans (b3.mono B0.size)
  clear ki ks kz B0 b3 N
  go_wp2_with fail
  refine (SP _).mono ?_
  rintro e w4 ⟨rfl, b4⟩
  have ki4 := ki3.below b4 ki3.lt
  have ks4 := ks3.below b4 ks3.lt
  have kz4 := kz3.below b4 kz3.lt
  have B4 := B3.trans (b4.mono B3.size)
  have hz4 := kz4.lt
  clear ki3 ks3 kz3 B3 b4 SP
  go_wp2_with (first
    | (refine wpList_store_blk rfl 27 (.tmp 15) (.tmp 33) rfl w4.heap.size _ (abA ab0) 27 rfl rfl (Blk.new_ _ _ _ rfl) rfl (abA_inf _) (abA_one _) ?_
       intro w5 h5 n5
       have J5 : D1 w w5 (32, y, z, k) s w4.heap.size ab0 := ⟨n5.blk' (ki4.alloc _) (by omega), n5.blk' (ks4.alloc _) (by omega), n5.blk' (kz4.alloc _) (by omega), h5, hz4, (B4.alloc B4.size _).trans (n5.below _ B4.size (by simp; have := B4.size; omega))⟩
       clear h5 n5 ki4 ks4 kz4 B4 hz4
       obtain ⟨i0, i1, i2, i3, s1, s2, s3, s4, v0, v1⟩ := J5.facts))
  generalize w4.heap.size = gv at *
  refine (OK _).mono ?_
  rintro e w6 ⟨rfl, b6⟩
  have J6 := J5.below b6
  clear J5 b6 i0 i1 i2 i3 s1 s2 s3 s4 v0 v1 OK
  have hgv := J6.kv.lt
  go_wp2_with (first
    | (refine wpList_store_blk rfl 27 (.tmp 16) (.tmp 69) rfl w6.heap.size _ (abA (sureA k)) 27 rfl rfl (Blk.new_ _ _ _ rfl) rfl (abA_inf _) (abA_one _) ?_
       intro w7 h7 n7
       have J7 : D2 w w7 (32, y, z, k) s gv (ab0) w6.heap.size (sureA k) := ⟨J6.below (((Below.refl _ w6).alloc (Nat.le_refl _) _).trans (n7.below _ (Nat.le_refl _) (by simp))), h7, hgv⟩
       clear h7 n7 J6 hgv
       obtain ⟨i0, i1, i2, i3, s1, s2, s3, s4, v0, v1⟩ := J7.d.facts
       obtain ⟨o0, o1⟩ := J7.facts)
    | (refine wpList_load_row rfl 40 (.tmp 7) rfl (w.heap.size + 1) rfl 40 (stC s) (0, 0) _ (J7.d.ks.alloc _).blk Tryd.underlying40 rfl (st_inf hl) ?_)
    | (refine wpList_store_blk rfl 72 (.tmp 17) (.tmp 78) rfl (w7.heap.size + 1) nxZ (nxC (.slice (some ⟨w7.heap.size, 0, none⟩) 1 1) s nil0) 72 rfl (congrArg Value.agg (nx_build7 hl _)) (Blk.new_ _ nxZ _ (by simp)) (nxz_size.trans (nx_size hl).symm) (nx_inf hl) nx_one ?_
       intro w8 h8 n8
       have b8 : Below w7.heap.size w7 w8 := (((Below.refl _ w7).alloc (Nat.le_refl _) _).alloc (by simp) _).trans (n8.below _ (by omega) (by simp; omega))
       have hgo := J7.ko.lt
       have hgv := J7.ho
       have hvv := J7.d.hv
       have hlt : w.heap.size + 1 + 1 < w7.heap.size := by omega
       have J8 : D3 w w8 (32, y, z, k) s gv (ab0) w6.heap.size (sureA k) (w7.heap.size + 1) (nxC (.slice (some ⟨w7.heap.size, 0, none⟩) 1 1) s nil0) := ⟨J7.below b8, h8, by omega⟩
       have kp : Blk w8 w7.heap.size #[.int .i64 ((i : Int) + 1)] 3 := n8.blk' ((Blk.new w7 _ _).alloc _) (by omega)
       clear h8 n8 b8 J7 hgo hgv hvv i0 i1 i2 i3 s1 s2 s3 s4 v0 v1 o0 o1
       obtain ⟨i0, i1, i2, i3, s1, s2, s3, s4, v0, v1⟩ := J8.d.d.facts
       obtain ⟨o0, o1⟩ := J8.d.facts)
    | (refine wpList_store_ab rfl 27 (.tmp 128) (.tmp 126) rfl (w7.heap.size + 1) 2 (nxC (.slice (some ⟨w7.heap.size, 0, none⟩) 1 1) s nil0) 72 (ab0) _ rfl rfl J8.kn (by rw [nx_size hl]; omega) ab_inf (nx_sa hl (ab0)) ?_
       intro w9 h9 n9
       have J9 := J8.put h9 n9
       have kp9 := n9.blk' kp (by omega)
       clear h9 n9 J8 kp i0 i1 i2 i3 s1 s2 s3 s4 v0 v1 o0 o1)
    | (refine wpList_load_row rfl 72 (.tmp 17) rfl (w7.heap.size + 1) rfl 72 (nxC (.slice (some ⟨w7.heap.size, 0, none⟩) 1 1) ({ s with a := ab0 }) nil0) (0, 0) _ J9.kn.blk Tryd.underlying72 rfl (nx_inf (t := { s with a := ab0 }) hl) ?_)
    | (refine wpList_store_blk rfl 72 (.tmp 10) (.tmp 245) rfl (w.heap.size + 1 + 1) nxZ (nxC (.slice (some ⟨w7.heap.size, 0, none⟩) 1 1) ({ s with a := ab0 }) nil0) 72 rfl rfl J9.d.d.kz (nxz_size.trans (nx_size (t := { s with a := ab0 }) hl).symm) (nx_inf (t := { s with a := ab0 }) hl) nx_one ?_; intro wz hz nz))
  refine bodyPost_ret (v := .agg (nxC (.slice (some ⟨w7.heap.size, 0, none⟩) 1 1) ({ s with a := ab0 }) nil0)) (results_cell_row rfl _ wz (w.heap.size + 1 + 1) 72 (nxC (.slice (some ⟨w7.heap.size, 0, none⟩) 1 1) ({ s with a := ab0 }) nil0) (0, 0) _ rfl hz.blk Tryd.underlying72 rfl (nx_inf (t := { s with a := ab0 }) hl)) rfl ?_
  exact ⟨_, _, rfl, .inr ⟨_, rfl, nz.blk' kp9 (by omega)⟩, .inl ⟨rfl, rfl⟩, J9.d.d.old.trans (nz.below _ (by omega) J9.d.d.old.size)⟩
set_option maxRecDepth 100000 in
set_option maxHeartbeats 4000000 in
theorem do_96 (y z k : Int) (i : Nat) (hi : i < 64) (hq : insO (96, y, z, k)) (s : StS) (hs : StOk s) (nr arch : Int) (w : World) (kn : Nat) (hkn : k = (kn : Int)) (h16 : kn < 16) (u : Ab) (hu : s.m.getD kn ab0 = u) :
    Calls Tryd.prog 27 #[insV 96 y z k, .int .i64 i, stV s, .int .u32 nr, .int .u32 arch] w fun e w' => ∃ P R, e = .returned (.agg (nxC P ({ s with a := u }) R)) ∧ PL w' P ([(i : Int) + 1]) ∧ RL w' R ([]) ∧ Below w.heap.size w w' := by
  have hl := hs.len
  have hsz := st_size hl
  subst hkn
  have h16' : (kn : Int) < 16 := by omega
  have HU := Lib.hid hu
  clear hu
  have hi' : (i : Int) < 64 := by omega
  have ki := ((Blk.new w (celI (96, y, z, (kn : Int))).toArray 51).alloc (.cells (stC s) 40)).alloc (.cells nxZ 72)
  have ks := (Blk.new_ (w.alloc (.cells (celI (96, y, z, (kn : Int))).toArray 51)) (stC s) 40 (n := w.heap.size + 1) (by simp)).alloc (.cells nxZ 72)
  have kz := Blk.new_ ((w.alloc (.cells (celI (96, y, z, (kn : Int))).toArray 51)).alloc (.cells (stC s) 40)) nxZ 72 (n := w.heap.size + 1 + 1) (by simp)
  have B0 := (((Below.refl w.heap.size w).alloc (Nat.le_refl _) (.cells (celI (96, y, z, (kn : Int))).toArray 51)).alloc (by simp) (.cells (stC s) 40)).alloc (by simp; omega) (.cells nxZ 72)
  have N := fun V => refname_any 96 V (by decide)
  rw [show nameOf 96 = (⟨#[108, 100, 46, 109, 101, 109]⟩, true) by kernel_rfl] at N
  have SP := fun V => split_any [108, 100, 46, 109, 101, 109] (by decide) V
  rw [show headOf [108, 100, 46, 109, 101, 109] = [108, 100] by decide, show tailOf [108, 100, 46, 109, 101, 109] = [109, 101, 109] by decide] at SP
  have OK := fun V => of_raw (kn : Int) V
  unfold insV stV
  go_enter Tryd.func27, Tryd.ntmps27
  go_wp2_with fail
  refine (N _).mono ?_
  rintro e w3 ⟨rfl, b3⟩
  have ki3 := ki.below b3 ki.lt
  have ks3 := ks.below b3 ks.lt
  have kz3 := kz.below b3 kz.lt
  have B3 := B0.trans (b3.mono B0.size)
  clear ki ks kz B0 b3 N
  go_wp2_with fail
  refine (SP _).mono ?_
  rintro e w4 ⟨rfl, b4⟩
  have ki4 := ki3.below b4 ki3.lt
  have ks4 := ks3.below b4 ks3.lt
  have kz4 := kz3.below b4 kz3.lt
  have B4 := B3.trans (b4.mono B3.size)
  have hz4 := kz4.lt
  clear ki3 ks3 kz3 B3 b4 SP
  go_wp2_with (first
    | (refine wpList_store_blk rfl 27 (.tmp 15) (.tmp 33) rfl w4.heap.size _ (abA ab0) 27 rfl rfl (Blk.new_ _ _ _ rfl) rfl (abA_inf _) (abA_one _) ?_
       intro w5 h5 n5
       have J5 : D1 w w5 (96, y, z, (kn : Int)) s w4.heap.size ab0 := ⟨n5.blk' (ki4.alloc _) (by omega), n5.blk' (ks4.alloc _) (by omega), n5.blk' (kz4.alloc _) (by omega), h5, hz4, (B4.alloc B4.size _).trans (n5.below _ B4.size (by simp; have := B4.size; omega))⟩
       clear h5 n5 ki4 ks4 kz4 B4 hz4
       obtain ⟨i0, i1, i2, i3, s1, s2, s3, s4, v0, v1⟩ := J5.facts
       obtain ⟨m0, m1⟩ := st_m J5.ks hl h16
       rw [HU.out] at m0 m1)
    | (refine wpList_store_blk rfl 27 (.tmp 15) (.tmp 66) rfl w4.heap.size _ (abA (u)) 27 rfl rfl J5.kv rfl (abA_inf _) (abA_one _) ?_
       intro w5c h5c n5c
       have J5c := J5.put h5c n5c
       clear h5c n5c J5 i0 i1 i2 i3 s1 s2 s3 s4 v0 v1
       obtain ⟨i0, i1, i2, i3, s1, s2, s3, s4, v0, v1⟩ := J5c.facts))
  generalize w4.heap.size = gv at *
  refine (OK _).mono ?_
  rintro e w6 ⟨rfl, b6⟩
  have J6 := J5c.below b6
  clear J5c b6 i0 i1 i2 i3 s1 s2 s3 s4 v0 v1 OK
  have hgv := J6.kv.lt
  go_wp2_with (first
    | (refine wpList_store_blk rfl 27 (.tmp 16) (.tmp 69) rfl w6.heap.size _ (abA (sureA (kn : Int))) 27 rfl rfl (Blk.new_ _ _ _ rfl) rfl (abA_inf _) (abA_one _) ?_
       intro w7 h7 n7
       have J7 : D2 w w7 (96, y, z, (kn : Int)) s gv (u) w6.heap.size (sureA (kn : Int)) := ⟨J6.below (((Below.refl _ w6).alloc (Nat.le_refl _) _).trans (n7.below _ (Nat.le_refl _) (by simp))), h7, hgv⟩
       clear h7 n7 J6 hgv
       obtain ⟨i0, i1, i2, i3, s1, s2, s3, s4, v0, v1⟩ := J7.d.facts
       obtain ⟨o0, o1⟩ := J7.facts)
    | (refine wpList_load_row rfl 40 (.tmp 7) rfl (w.heap.size + 1) rfl 40 (stC s) (0, 0) _ (J7.d.ks.alloc _).blk Tryd.underlying40 rfl (st_inf hl) ?_)
    | (refine wpList_store_blk rfl 72 (.tmp 17) (.tmp 78) rfl (w7.heap.size + 1) nxZ (nxC (.slice (some ⟨w7.heap.size, 0, none⟩) 1 1) s nil0) 72 rfl (congrArg Value.agg (nx_build7 hl _)) (Blk.new_ _ nxZ _ (by simp)) (nxz_size.trans (nx_size hl).symm) (nx_inf hl) nx_one ?_
       intro w8 h8 n8
       have b8 : Below w7.heap.size w7 w8 := (((Below.refl _ w7).alloc (Nat.le_refl _) _).alloc (by simp) _).trans (n8.below _ (by omega) (by simp; omega))
       have hgo := J7.ko.lt
       have hgv := J7.ho
       have hvv := J7.d.hv
       have hlt : w.heap.size + 1 + 1 < w7.heap.size := by omega
       have J8 : D3 w w8 (96, y, z, (kn : Int)) s gv (u) w6.heap.size (sureA (kn : Int)) (w7.heap.size + 1) (nxC (.slice (some ⟨w7.heap.size, 0, none⟩) 1 1) s nil0) := ⟨J7.below b8, h8, by omega⟩
       have kp : Blk w8 w7.heap.size #[.int .i64 ((i : Int) + 1)] 3 := n8.blk' ((Blk.new w7 _ _).alloc _) (by omega)
       clear h8 n8 b8 J7 hgo hgv hvv i0 i1 i2 i3 s1 s2 s3 s4 v0 v1 o0 o1
       obtain ⟨i0, i1, i2, i3, s1, s2, s3, s4, v0, v1⟩ := J8.d.d.facts
       obtain ⟨o0, o1⟩ := J8.d.facts)
    | (refine wpList_store_ab rfl 27 (.tmp 128) (.tmp 126) rfl (w7.heap.size + 1) 2 (nxC (.slice (some ⟨w7.heap.size, 0, none⟩) 1 1) s nil0) 72 (u) _ rfl rfl J8.kn (by rw [nx_size hl]; omega) ab_inf (nx_sa hl u) ?_
       intro w9 h9 n9
       have J9 := J8.put h9 n9
       have kp9 := n9.blk' kp (by omega)
       clear h9 n9 J8 kp i0 i1 i2 i3 s1 s2 s3 s4 v0 v1 o0 o1)
    | (refine wpList_load_row rfl 72 (.tmp 17) rfl (w7.heap.size + 1) rfl 72 (nxC (.slice (some ⟨w7.heap.size, 0, none⟩) 1 1) ({ s with a := u }) nil0) (0, 0) _ J9.kn.blk Tryd.underlying72 rfl (nx_inf (t := { s with a := u }) hl) ?_)
    | (refine wpList_store_blk rfl 72 (.tmp 10) (.tmp 245) rfl (w.heap.size + 1 + 1) nxZ (nxC (.slice (some ⟨w7.heap.size, 0, none⟩) 1 1) ({ s with a := u }) nil0) 72 rfl rfl J9.d.d.kz (nxz_size.trans (nx_size (t := { s with a := u }) hl).symm) (nx_inf (t := { s with a := u }) hl) nx_one ?_; intro wz hz nz))
  refine bodyPost_ret (v := .agg (nxC (.slice (some ⟨w7.heap.size, 0, none⟩) 1 1) ({ s with a := u }) nil0)) (results_cell_row rfl _ wz (w.heap.size + 1 + 1) 72 (nxC (.slice (some ⟨w7.heap.size, 0, none⟩) 1 1) ({ s with a := u }) nil0) (0, 0) _ rfl hz.blk Tryd.underlying72 rfl (nx_inf (t := { s with a := u }) hl)) rfl ?_
  exact ⟨_, _, rfl, .inr ⟨_, rfl, nz.blk' kp9 (by omega)⟩, .inl ⟨rfl, rfl⟩, J9.d.d.old.trans (nz.below _ (by omega) J9.d.d.old.size)⟩
set_option maxRecDepth 100000 in
set_option maxHeartbeats 4000000 in
theorem do_97 (y z k : Int) (i : Nat) (hi : i < 64) (hq : insO (97, y, z, k)) (s : StS) (hs : StOk s) (nr arch : Int) (w : World) (kn : Nat) (hkn : k = (kn : Int)) (h16 : kn < 16) (u : Ab) (hu : s.m.getD kn ab0 = u) :
    Calls Tryd.prog 27 #[insV 97 y z k, .int .i64 i, stV s, .int .u32 nr, .int .u32 arch] w fun e w' => ∃ P R, e = .returned (.agg (nxC P ({ s with x := u }) R)) ∧ PL w' P ([(i : Int) + 1]) ∧ RL w' R ([]) ∧ Below w.heap.size w w' := by
  have hl := hs.len
  have hsz := st_size hl
  subst hkn
  have h16' : (kn : Int) < 16 := by omega
  have HU := Lib.hid hu
  clear hu
  have hi' : (i : Int) < 64 := by omega
  have ki := ((Blk.new w (celI (97, y, z, (kn : Int))).toArray 51).alloc (.cells (stC s) 40)).alloc (.cells nxZ 72)
  have ks := (Blk.new_ (w.alloc (.cells (celI (97, y, z, (kn : Int))).toArray 51)) (stC s) 40 (n := w.heap.size + 1) (by simp)).alloc (.cells nxZ 72)
  have kz := Blk.new_ ((w.alloc (.cells (celI (97, y, z, (kn : Int))).toArray 51)).alloc (.cells (stC s) 40)) nxZ 72 (n := w.heap.size + 1 + 1) (by simp)
  have B0 := (((Below.refl w.heap.size w).alloc (Nat.le_refl _) (.cells (celI (97, y, z, (kn : Int))).toArray 51)).alloc (by simp) (.cells (stC s) 40)).alloc (by simp; omega) (.cells nxZ 72)
  have N := fun V => refname_any 97 V (by decide)
  rw [show nameOf 97 = (⟨#[108, 100, 120, 46, 109, 101, 109]⟩, true) by kernel_rfl] at N
  have SP := fun V => split_any [108, 100, 120, 46, 109, 101, 109] (by decide) V
  rw [show headOf [108, 100, 120, 46, 109, 101, 109] = [108, 100, 120] by decide, show tailOf [108, 100, 120, 46, 109, 101, 109] = [109, 101, 109] by decide] at SP
  have OK := fun V => of_raw (kn : Int) V
  unfold insV stV
  go_enter Tryd.func27, Tryd.ntmps27
  go_wp2_with fail
  refine (N _).mono ?_
  rintro e w3 ⟨rfl, b3⟩
  have ki3 := ki.below b3 ki.lt
  have ks3 := ks.below b3 ks.lt
  have kz3 := kz.below b3 kz.lt
  have B3 := B0.trans (b3.mono B0.size)
  clear ki ks kz B0 b3 N
  go_wp2_with fail
  refine (SP _).mono ?_
  rintro e w4 ⟨rfl, b4⟩
  have ki4 := ki3.below b4 ki3.lt
  have ks4 := ks3.below b4 ks3.lt
  have kz4 := kz3.below b4 kz3.lt
  have B4 := B3.trans (b4.mono B3.size)
  have hz4 := kz4.lt
  clear ki3 ks3 kz3 B3 b4 SP
  go_wp2_with (first
    | (refine wpList_store_blk rfl 27 (.tmp 15) (.tmp 33) rfl w4.heap.size _ (abA ab0) 27 rfl rfl (Blk.new_ _ _ _ rfl) rfl (abA_inf _) (abA_one _) ?_
       intro w5 h5 n5
       have J5 : D1 w w5 (97, y, z, (kn : Int)) s w4.heap.size ab0 := ⟨n5.blk' (ki4.alloc _) (by omega), n5.blk' (ks4.alloc _) (by omega), n5.blk' (kz4.alloc _) (by omega), h5, hz4, (B4.alloc B4.size _).trans (n5.below _ B4.size (by simp; have := B4.size; omega))⟩
       clear h5 n5 ki4 ks4 kz4 B4 hz4
       obtain ⟨i0, i1, i2, i3, s1, s2, s3, s4, v0, v1⟩ := J5.facts
       obtain ⟨m0, m1⟩ := st_m J5.ks hl h16
       rw [HU.out] at m0 m1)
    | (refine wpList_store_blk rfl 27 (.tmp 15) (.tmp 66) rfl w4.heap.size _ (abA (u)) 27 rfl rfl J5.kv rfl (abA_inf _) (abA_one _) ?_
       intro w5c h5c n5c
       have J5c := J5.put h5c n5c
       clear h5c n5c J5 i0 i1 i2 i3 s1 s2 s3 s4 v0 v1
       obtain ⟨i0, i1, i2, i3, s1, s2, s3, s4, v0, v1⟩ := J5c.facts))
  generalize w4.heap.size = gv at *
  refine (OK _).mono ?_
  rintro e w6 ⟨rfl, b6⟩
  have J6 := J5c.below b6
  clear J5c b6 i0 i1 i2 i3 s1 s2 s3 s4 v0 v1 OK
  have hgv := J6.kv.lt
  go_wp2_with (first
    | (refine wpList_store_blk rfl 27 (.tmp 16) (.tmp 69) rfl w6.heap.size _ (abA (sureA (kn : Int))) 27 rfl rfl (Blk.new_ _ _ _ rfl) rfl (abA_inf _) (abA_one _) ?_
       intro w7 h7 n7
       have J7 : D2 w w7 (97, y, z, (kn : Int)) s gv (u) w6.heap.size (sureA (kn : Int)) := ⟨J6.below (((Below.refl _ w6).alloc (Nat.le_refl _) _).trans (n7.below _ (Nat.le_refl _) (by simp))), h7, hgv⟩
       clear h7 n7 J6 hgv
       obtain ⟨i0, i1, i2, i3, s1, s2, s3, s4, v0, v1⟩ := J7.d.facts
       obtain ⟨o0, o1⟩ := J7.facts)
    | (refine wpList_load_row rfl 40 (.tmp 7) rfl (w.heap.size + 1) rfl 40 (stC s) (0, 0) _ (J7.d.ks.alloc _).blk Tryd.underlying40 rfl (st_inf hl) ?_)
    | (refine wpList_store_blk rfl 72 (.tmp 17) (.tmp 78) rfl (w7.heap.size + 1) nxZ (nxC (.slice (some ⟨w7.heap.size, 0, none⟩) 1 1) s nil0) 72 rfl (congrArg Value.agg (nx_build7 hl _)) (Blk.new_ _ nxZ _ (by simp)) (nxz_size.trans (nx_size hl).symm) (nx_inf hl) nx_one ?_
       intro w8 h8 n8
       have b8 : Below w7.heap.size w7 w8 := (((Below.refl _ w7).alloc (Nat.le_refl _) _).alloc (by simp) _).trans (n8.below _ (by omega) (by simp; omega))
       have hgo := J7.ko.lt
       have hgv := J7.ho
       have hvv := J7.d.hv
       have hlt : w.heap.size + 1 + 1 < w7.heap.size := by omega
       have J8 : D3 w w8 (97, y, z, (kn : Int)) s gv (u) w6.heap.size (sureA (kn : Int)) (w7.heap.size + 1) (nxC (.slice (some ⟨w7.heap.size, 0, none⟩) 1 1) s nil0) := ⟨J7.below b8, h8, by omega⟩
       have kp : Blk w8 w7.heap.size #[.int .i64 ((i : Int) + 1)] 3 := n8.blk' ((Blk.new w7 _ _).alloc _) (by omega)
       clear h8 n8 b8 J7 hgo hgv hvv i0 i1 i2 i3 s1 s2 s3 s4 v0 v1 o0 o1
       obtain ⟨i0, i1, i2, i3, s1, s2, s3, s4, v0, v1⟩ := J8.d.d.facts
       obtain ⟨o0, o1⟩ := J8.d.facts)
    | (refine wpList_store_ab rfl 27 (.tmp 133) (.tmp 131) rfl (w7.heap.size + 1) 4 (nxC (.slice (some ⟨w7.heap.size, 0, none⟩) 1 1) s nil0) 72 (u) _ rfl rfl J8.kn (by rw [nx_size hl]; omega) ab_inf (nx_sx hl u) ?_
       intro w9 h9 n9
       have J9 := J8.put h9 n9
       have kp9 := n9.blk' kp (by omega)
       clear h9 n9 J8 kp i0 i1 i2 i3 s1 s2 s3 s4 v0 v1 o0 o1)
    | (refine wpList_load_row rfl 72 (.tmp 17) rfl (w7.heap.size + 1) rfl 72 (nxC (.slice (some ⟨w7.heap.size, 0, none⟩) 1 1) ({ s with x := u }) nil0) (0, 0) _ J9.kn.blk Tryd.underlying72 rfl (nx_inf (t := { s with x := u }) hl) ?_)
    | (refine wpList_store_blk rfl 72 (.tmp 10) (.tmp 245) rfl (w.heap.size + 1 + 1) nxZ (nxC (.slice (some ⟨w7.heap.size, 0, none⟩) 1 1) ({ s with x := u }) nil0) 72 rfl rfl J9.d.d.kz (nxz_size.trans (nx_size (t := { s with x := u }) hl).symm) (nx_inf (t := { s with x := u }) hl) nx_one ?_; intro wz hz nz))
  refine bodyPost_ret (v := .agg (nxC (.slice (some ⟨w7.heap.size, 0, none⟩) 1 1) ({ s with x := u }) nil0)) (results_cell_row rfl _ wz (w.heap.size + 1 + 1) 72 (nxC (.slice (some ⟨w7.heap.size, 0, none⟩) 1 1) ({ s with x := u }) nil0) (0, 0) _ rfl hz.blk Tryd.underlying72 rfl (nx_inf (t := { s with x := u }) hl)) rfl ?_
  exact ⟨_, _, rfl, .inr ⟨_, rfl, nz.blk' kp9 (by omega)⟩, .inl ⟨rfl, rfl⟩, J9.d.d.old.trans (nz.below _ (by omega) J9.d.d.old.size)⟩
end Go.Proofs.YtehcijockeecpaaDoor
