/-
  The reference's Do, walked. (gen8/gendo.py)
-/
import Derived.Test.YtehcijockeecpaaDoorRfD0
namespace Go.Proofs.YtehcijockeecpaaDoor
open Go.RowKit
set_option linter.unusedVariables false
set_option linter.unusedSimpArgs false

set_option maxRecDepth 100000 in
set_option maxHeartbeats 4000000 in
theorem do_132n (y z k : Int) (i : Nat) (hi : i < 64) (hq : insO (132, y, z, k)) (s : StS) (hs : StOk s) (nr arch : Int) (w : World) (hk : s.a.k = false) :
    Calls Tryd.prog 27 #[insV 132 y z k, .int .i64 i, stV s, .int .u32 nr, .int .u32 arch] w fun e w' => ∃ P R, e = .returned (.agg (nxC P ({ s with a := ab0 }) R)) ∧ PL w' P ([(i : Int) + 1]) ∧ RL w' R ([]) ∧ Below w.heap.size w w' := by
  have hl := hs.len
  have hsz := st_size hl
  have HK := Lib.hid hk
  clear hk
  have hi' : (i : Int) < 64 := by omega
  have ki := ((Blk.new w (celI (132, y, z, k)).toArray 51).alloc (.cells (stC s) 40)).alloc (.cells nxZ 72)
  have ks := (Blk.new_ (w.alloc (.cells (celI (132, y, z, k)).toArray 51)) (stC s) 40 (n := w.heap.size + 1) (by simp)).alloc (.cells nxZ 72)
  have kz := Blk.new_ ((w.alloc (.cells (celI (132, y, z, k)).toArray 51)).alloc (.cells (stC s) 40)) nxZ 72 (n := w.heap.size + 1 + 1) (by simp)
  have B0 := (((Below.refl w.heap.size w).alloc (Nat.le_refl _) (.cells (celI (132, y, z, k)).toArray 51)).alloc (by simp) (.cells (stC s) 40)).alloc (by simp; omega) (.cells nxZ 72)
  have N := fun V => refname_any 132 V (by decide)
  rw [show nameOf 132 = (⟨#[110, 101, 103]⟩, true) by kernel_rfl] at N
  have SP := fun V => split_any [110, 101, 103] (by decide) V
  rw [show headOf [110, 101, 103] = [110, 101, 103] by decide, show tailOf [110, 101, 103] = [] by decide] at SP
  have OK := fun V => of_raw k V
  unfold insV stV
  go_enter Tryd.func27, Tryd.ntmps27
  go_wp2_with fail
  refine (N _).mono ?_
  rintro e w3 ⟨rfl, b3⟩
  have ki3 := ki.below b3 ki.lt
  have ks3 := ks.below b3 ks.lt
  have kz3 := kz.below b3 kz.lt
  have B3 := B0.trans (b3.mono B0.size)
  clear ki ks kz B0 b3 N
  go_wp2_with fail
  refine (SP _).mono ?_
  rintro e w4 ⟨rfl, b4⟩
  have ki4 := ki3.below b4 ki3.lt
  have ks4 := ks3.below b4 ks3.lt
  have kz4 := kz3.below b4 kz3.lt
  have B4 := B3.trans (b4.mono B3.size)
  have hz4 := kz4.lt
  clear ki3 ks3 kz3 B3 b4 SP
  go_wp2_with (first
    | (refine wpList_store_blk rfl 27 (.tmp 15) (.tmp 33) rfl w4.heap.size _ (abA ab0) 27 rfl rfl (Blk.new_ _ _ _ rfl) rfl (abA_inf _) (abA_one _) ?_
       intro w5 h5 n5
       have J5 : D1 w w5 (132, y, z, k) s w4.heap.size ab0 := ⟨n5.blk' (ki4.alloc _) (by omega), n5.blk' (ks4.alloc _) (by omega), n5.blk' (kz4.alloc _) (by omega), h5, hz4, (B4.alloc B4.size _).trans (n5.below _ B4.size (by simp; have := B4.size; omega))⟩
       clear h5 n5 ki4 ks4 kz4 B4 hz4
       obtain ⟨i0, i1, i2, i3, s1, s2, s3, s4, v0, v1⟩ := J5.facts))
  generalize w4.heap.size = gv at *
  refine (OK _).mono ?_
  rintro e w6 ⟨rfl, b6⟩
  have J6 := J5.below b6
  clear J5 b6 i0 i1 i2 i3 s1 s2 s3 s4 v0 v1 OK
  have hgv := J6.kv.lt
  go_wp2_with (first
    | (refine wpList_store_blk rfl 27 (.tmp 16) (.tmp 69) rfl w6.heap.size _ (abA (sureA k)) 27 rfl rfl (Blk.new_ _ _ _ rfl) rfl (abA_inf _) (abA_one _) ?_
       intro w7 h7 n7
       have J7 : D2 w w7 (132, y, z, k) s gv (ab0) w6.heap.size (sureA k) := ⟨J6.below (((Below.refl _ w6).alloc (Nat.le_refl _) _).trans (n7.below _ (Nat.le_refl _) (by simp))), h7, hgv⟩
       clear h7 n7 J6 hgv
       obtain ⟨i0, i1, i2, i3, s1, s2, s3, s4, v0, v1⟩ := J7.d.facts
       obtain ⟨o0, o1⟩ := J7.facts)
    | (refine wpList_load_row rfl 40 (.tmp 7) rfl (w.heap.size + 1) rfl 40 (stC s) (0, 0) _ (J7.d.ks.alloc _).blk Tryd.underlying40 rfl (st_inf hl) ?_)
    | (refine wpList_store_blk rfl 72 (.tmp 17) (.tmp 78) rfl (w7.heap.size + 1) nxZ (nxC (.slice (some ⟨w7.heap.size, 0, none⟩) 1 1) s nil0) 72 rfl (congrArg Value.agg (nx_build7 hl _)) (Blk.new_ _ nxZ _ (by simp)) (nxz_size.trans (nx_size hl).symm) (nx_inf hl) nx_one ?_
       intro w8 h8 n8
       have b8 : Below w7.heap.size w7 w8 := (((Below.refl _ w7).alloc (Nat.le_refl _) _).alloc (by simp) _).trans (n8.below _ (by omega) (by simp; omega))
       have hgo := J7.ko.lt
       have hgv := J7.ho
       have hvv := J7.d.hv
       have hlt : w.heap.size + 1 + 1 < w7.heap.size := by omega
       have J8 : D3 w w8 (132, y, z, k) s gv (ab0) w6.heap.size (sureA k) (w7.heap.size + 1) (nxC (.slice (some ⟨w7.heap.size, 0, none⟩) 1 1) s nil0) := ⟨J7.below b8, h8, by omega⟩
       have kp : Blk w8 w7.heap.size #[.int .i64 ((i : Int) + 1)] 3 := n8.blk' ((Blk.new w7 _ _).alloc _) (by omega)
       clear h8 n8 b8 J7 hgo hgv hvv i0 i1 i2 i3 s1 s2 s3 s4 v0 v1 o0 o1
       obtain ⟨i0, i1, i2, i3, s1, s2, s3, s4, v0, v1⟩ := J8.d.d.facts
       obtain ⟨o0, o1⟩ := J8.d.facts)
    | (refine wpList_store_ab rfl 27 (.tmp 234) (.tmp 232) rfl (w7.heap.size + 1) 2 (nxC (.slice (some ⟨w7.heap.size, 0, none⟩) 1 1) (s) nil0) 72 (ab0) _ rfl rfl J8.kn (by rw [nx_size (t := s) hl]; omega) ab_inf (nx_sa hl ab0) ?_
       intro w9 h9 n9
       have J9 := J8.put h9 n9
       have kp9 := n9.blk' kp (by omega)
       clear h9 n9 J8 kp i0 i1 i2 i3 s1 s2 s3 s4 v0 v1 o0 o1
       obtain ⟨i0, i1, i2, i3, s1, s2, s3, s4, v0, v1⟩ := J9.d.d.facts
       obtain ⟨o0, o1⟩ := J9.d.facts
       rw [HK.out] at s1)
    | (refine wpList_load_row rfl 72 (.tmp 17) rfl (w7.heap.size + 1) rfl 72 (nxC (.slice (some ⟨w7.heap.size, 0, none⟩) 1 1) ({ s with a := ab0 }) nil0) (0, 0) _ J9.kn.blk Tryd.underlying72 rfl (nx_inf (t := { s with a := ab0 }) hl) ?_)
    | (refine wpList_store_blk rfl 72 (.tmp 10) (.tmp 245) rfl (w.heap.size + 1 + 1) nxZ (nxC (.slice (some ⟨w7.heap.size, 0, none⟩) 1 1) ({ s with a := ab0 }) nil0) 72 rfl rfl J9.d.d.kz (nxz_size.trans (nx_size (t := { s with a := ab0 }) hl).symm) (nx_inf (t := { s with a := ab0 }) hl) nx_one ?_; intro wz hz nz))
  refine bodyPost_ret (v := .agg (nxC (.slice (some ⟨w7.heap.size, 0, none⟩) 1 1) ({ s with a := ab0 }) nil0)) (results_cell_row rfl _ wz (w.heap.size + 1 + 1) 72 (nxC (.slice (some ⟨w7.heap.size, 0, none⟩) 1 1) ({ s with a := ab0 }) nil0) (0, 0) _ rfl hz.blk Tryd.underlying72 rfl (nx_inf (t := { s with a := ab0 }) hl)) rfl ?_
  exact ⟨_, _, rfl, .inr ⟨_, rfl, nz.blk' kp9 (by omega)⟩, .inl ⟨rfl, rfl⟩, J9.d.d.old.trans (nz.below _ (by omega) J9.d.d.old.size)⟩
set_option maxRecDepth 100000 in
set_option maxHeartbeats 4000000 in
theorem do_132y (y z k : Int) (i : Nat) (hi : i < 64) (hq : insO (132, y, z, k)) (s : StS) (hs : StOk s) (nr arch : Int) (w : World) (hk : s.a.k = true) :
    Calls Tryd.prog 27 #[insV 132 y z k, .int .i64 i, stV s, .int .u32 nr, .int .u32 arch] w fun e w' => ∃ P R, e = .returned (.agg (nxC P ({ s with a := sureA (IntKind.u32.wrap (-s.a.v)) }) R)) ∧ PL w' P ([(i : Int) + 1]) ∧ RL w' R ([]) ∧ Below w.heap.size w w' := by
  have hl := hs.len
  have hsz := st_size hl
  have HK := Lib.hid hk
  clear hk
  have OV := fun V => of_raw (IntKind.u32.wrap (-s.a.v)) V
  have hi' : (i : Int) < 64 := by omega
  have ki := ((Blk.new w (celI (132, y, z, k)).toArray 51).alloc (.cells (stC s) 40)).alloc (.cells nxZ 72)
  have ks := (Blk.new_ (w.alloc (.cells (celI (132, y, z, k)).toArray 51)) (stC s) 40 (n := w.heap.size + 1) (by simp)).alloc (.cells nxZ 72)
  have kz := Blk.new_ ((w.alloc (.cells (celI (132, y, z, k)).toArray 51)).alloc (.cells (stC s) 40)) nxZ 72 (n := w.heap.size + 1 + 1) (by simp)
  have B0 := (((Below.refl w.heap.size w).alloc (Nat.le_refl _) (.cells (celI (132, y, z, k)).toArray 51)).alloc (by simp) (.cells (stC s) 40)).alloc (by simp; omega) (.cells nxZ 72)
  have N := fun V => refname_any 132 V (by decide)
  rw [show nameOf 132 = (⟨#[110, 101, 103]⟩, true) by kernel_rfl] at N
  have SP := fun V => split_any [110, 101, 103] (by decide) V
  rw [show headOf [110, 101, 103] = [110, 101, 103] by decide, show tailOf [110, 101, 103] = [] by decide] at SP
  have OK := fun V => of_raw k V
  unfold insV stV
  go_enter Tryd.func27, Tryd.ntmps27
  go_wp2_with fail
  refine (N _).mono ?_
  rintro e w3 ⟨rfl, b3⟩
  have ki3 := ki.below b3 ki.lt
  have ks3 := ks.below b3 ks.lt
  have kz3 := kz.below b3 kz.lt
  have B3 := B0.trans (b3.mono B0.size)
  clear ki ks kz B0 b3 N
  go_wp2_with fail
  refine (SP _).mono ?_
  rintro e w4 ⟨rfl, b4⟩
  have ki4 := ki3.below b4 ki3.lt
  have ks4 := ks3.below b4 ks3.lt
  have kz4 := kz3.below b4 kz3.lt
  have B4 := B3.trans (b4.mono B3.size)
  have hz4 := kz4.lt
  clear ki3 ks3 kz3 B3 b4 SP
  go_wp2_with (first
    | (refine wpList_store_blk rfl 27 (.tmp 15) (.tmp 33) rfl w4.heap.size _ (abA ab0) 27 rfl rfl (Blk.new_ _ _ _ rfl) rfl (abA_inf _) (abA_one _) ?_
       intro w5 h5 n5
       have J5 : D1 w w5 (132, y, z, k) s w4.heap.size ab0 := ⟨n5.blk' (ki4.alloc _) (by omega), n5.blk' (ks4.alloc _) (by omega), n5.blk' (kz4.alloc _) (by omega), h5, hz4, (B4.alloc B4.size _).trans (n5.below _ B4.size (by simp; have := B4.size; omega))⟩
       clear h5 n5 ki4 ks4 kz4 B4 hz4
       obtain ⟨i0, i1, i2, i3, s1, s2, s3, s4, v0, v1⟩ := J5.facts))
  generalize w4.heap.size = gv at *
  refine (OK _).mono ?_
  rintro e w6 ⟨rfl, b6⟩
  have J6 := J5.below b6
  clear J5 b6 i0 i1 i2 i3 s1 s2 s3 s4 v0 v1 OK
  have hgv := J6.kv.lt
  go_wp2_with (first
    | (refine wpList_store_blk rfl 27 (.tmp 16) (.tmp 69) rfl w6.heap.size _ (abA (sureA k)) 27 rfl rfl (Blk.new_ _ _ _ rfl) rfl (abA_inf _) (abA_one _) ?_
       intro w7 h7 n7
       have J7 : D2 w w7 (132, y, z, k) s gv (ab0) w6.heap.size (sureA k) := ⟨J6.below (((Below.refl _ w6).alloc (Nat.le_refl _) _).trans (n7.below _ (Nat.le_refl _) (by simp))), h7, hgv⟩
       clear h7 n7 J6 hgv
       obtain ⟨i0, i1, i2, i3, s1, s2, s3, s4, v0, v1⟩ := J7.d.facts
       obtain ⟨o0, o1⟩ := J7.facts)
    | (refine wpList_load_row rfl 40 (.tmp 7) rfl (w.heap.size + 1) rfl 40 (stC s) (0, 0) _ (J7.d.ks.alloc _).blk Tryd.underlying40 rfl (st_inf hl) ?_)
    | (refine wpList_store_blk rfl 72 (.tmp 17) (.tmp 78) rfl (w7.heap.size + 1) nxZ (nxC (.slice (some ⟨w7.heap.size, 0, none⟩) 1 1) s nil0) 72 rfl (congrArg Value.agg (nx_build7 hl _)) (Blk.new_ _ nxZ _ (by simp)) (nxz_size.trans (nx_size hl).symm) (nx_inf hl) nx_one ?_
       intro w8 h8 n8
       have b8 : Below w7.heap.size w7 w8 := (((Below.refl _ w7).alloc (Nat.le_refl _) _).alloc (by simp) _).trans (n8.below _ (by omega) (by simp; omega))
       have hgo := J7.ko.lt
       have hgv := J7.ho
       have hvv := J7.d.hv
       have hlt : w.heap.size + 1 + 1 < w7.heap.size := by omega
       have J8 : D3 w w8 (132, y, z, k) s gv (ab0) w6.heap.size (sureA k) (w7.heap.size + 1) (nxC (.slice (some ⟨w7.heap.size, 0, none⟩) 1 1) s nil0) := ⟨J7.below b8, h8, by omega⟩
       have kp : Blk w8 w7.heap.size #[.int .i64 ((i : Int) + 1)] 3 := n8.blk' ((Blk.new w7 _ _).alloc _) (by omega)
       clear h8 n8 b8 J7 hgo hgv hvv i0 i1 i2 i3 s1 s2 s3 s4 v0 v1 o0 o1
       obtain ⟨i0, i1, i2, i3, s1, s2, s3, s4, v0, v1⟩ := J8.d.d.facts
       obtain ⟨o0, o1⟩ := J8.d.facts)
    | (refine wpList_store_ab rfl 27 (.tmp 234) (.tmp 232) rfl (w7.heap.size + 1) 2 (nxC (.slice (some ⟨w7.heap.size, 0, none⟩) 1 1) (s) nil0) 72 (ab0) _ rfl rfl J8.kn (by rw [nx_size (t := s) hl]; omega) ab_inf (nx_sa hl ab0) ?_
       intro w9 h9 n9
       have J9b := J8.put h9 n9
       have kp9b := n9.blk' kp (by omega)
       clear h9 n9 J8 kp i0 i1 i2 i3 s1 s2 s3 s4 v0 v1 o0 o1
       obtain ⟨i0, i1, i2, i3, s1, s2, s3, s4, v0, v1⟩ := J9b.d.d.facts
       obtain ⟨o0, o1⟩ := J9b.d.facts
       rw [HK.out] at s1))
  refine (OV _).mono ?_
  rintro e wa ⟨rfl, ba⟩
  have Ja := J9b.below ba
  have kpa := kp9b.below ba kp9b.lt
  clear J9b kp9b ba OV i0 i1 i2 i3 s1 s2 s3 s4 v0 v1 o0 o1
  go_wp2_with (first
    | (refine wpList_store_ab rfl 27 (.tmp 244) (.tmp 242) rfl (w7.heap.size + 1) 2 (nxC (.slice (some ⟨w7.heap.size, 0, none⟩) 1 1) ({ s with a := ab0 }) nil0) 72 (sureA (IntKind.u32.wrap (-s.a.v))) _ rfl rfl Ja.kn (by rw [nx_size (t := { s with a := ab0 }) hl]; omega) ab_inf (nx_sa (t := { s with a := ab0 }) hl (sureA (IntKind.u32.wrap (-s.a.v)))) ?_
       intro wb h9 n9
       have J9 := Ja.put h9 n9
       have kp9 := n9.blk' kpa (by omega)
       clear h9 n9 Ja kpa)
    | (refine wpList_load_row rfl 72 (.tmp 17) rfl (w7.heap.size + 1) rfl 72 (nxC (.slice (some ⟨w7.heap.size, 0, none⟩) 1 1) ({ s with a := sureA (IntKind.u32.wrap (-s.a.v)) }) nil0) (0, 0) _ J9.kn.blk Tryd.underlying72 rfl (nx_inf (t := { s with a := sureA (IntKind.u32.wrap (-s.a.v)) }) hl) ?_)
    | (refine wpList_store_blk rfl 72 (.tmp 10) (.tmp 245) rfl (w.heap.size + 1 + 1) nxZ (nxC (.slice (some ⟨w7.heap.size, 0, none⟩) 1 1) ({ s with a := sureA (IntKind.u32.wrap (-s.a.v)) }) nil0) 72 rfl rfl J9.d.d.kz (nxz_size.trans (nx_size (t := { s with a := sureA (IntKind.u32.wrap (-s.a.v)) }) hl).symm) (nx_inf (t := { s with a := sureA (IntKind.u32.wrap (-s.a.v)) }) hl) nx_one ?_; intro wz hz nz))
  refine bodyPost_ret (v := .agg (nxC (.slice (some ⟨w7.heap.size, 0, none⟩) 1 1) ({ s with a := sureA (IntKind.u32.wrap (-s.a.v)) }) nil0)) (results_cell_row rfl _ wz (w.heap.size + 1 + 1) 72 (nxC (.slice (some ⟨w7.heap.size, 0, none⟩) 1 1) ({ s with a := sureA (IntKind.u32.wrap (-s.a.v)) }) nil0) (0, 0) _ rfl hz.blk Tryd.underlying72 rfl (nx_inf (t := { s with a := sureA (IntKind.u32.wrap (-s.a.v)) }) hl)) rfl ?_
  exact ⟨_, _, rfl, .inr ⟨_, rfl, nz.blk' kp9 (by omega)⟩, .inl ⟨rfl, rfl⟩, J9.d.d.old.trans (nz.below _ (by omega) J9.d.d.old.size)⟩
set_option maxRecDepth 100000 in
set_option maxHeartbeats 4000000 in
theorem do_52n (y z k : Int) (i : Nat) (hi : i < 64) (hq : insO (52, y, z, k)) (s : StS) (hs : StOk s) (nr arch : Int) (w : World) (hk : s.a.k = false) (hz : ¬ k = 0) :
    Calls Tryd.prog 27 #[insV 52 y z k, .int .i64 i, stV s, .int .u32 nr, .int .u32 arch] w fun e w' => ∃ P R, e = .returned (.agg (nxC P ({ s with a := ab0 }) R)) ∧ PL w' P ([(i : Int) + 1]) ∧ RL w' R ([]) ∧ Below w.heap.size w w' := by
  have hl := hs.len
  have hsz := st_size hl
  have HK := Lib.hid hk
  clear hk
  have hz0 : (k == 0) = false := by simpa using hz
  have hi' : (i : Int) < 64 := by omega
  have ki := ((Blk.new w (celI (52, y, z, k)).toArray 51).alloc (.cells (stC s) 40)).alloc (.cells nxZ 72)
  have ks := (Blk.new_ (w.alloc (.cells (celI (52, y, z, k)).toArray 51)) (stC s) 40 (n := w.heap.size + 1) (by simp)).alloc (.cells nxZ 72)
  have kz := Blk.new_ ((w.alloc (.cells (celI (52, y, z, k)).toArray 51)).alloc (.cells (stC s) 40)) nxZ 72 (n := w.heap.size + 1 + 1) (by simp)
  have B0 := (((Below.refl w.heap.size w).alloc (Nat.le_refl _) (.cells (celI (52, y, z, k)).toArray 51)).alloc (by simp) (.cells (stC s) 40)).alloc (by simp; omega) (.cells nxZ 72)
  have N := fun V => refname_any 52 V (by decide)
  rw [show nameOf 52 = (⟨#[100, 105, 118, 46, 107]⟩, true) by kernel_rfl] at N
  have SP := fun V => split_any [100, 105, 118, 46, 107] (by decide) V
  rw [show headOf [100, 105, 118, 46, 107] = [100, 105, 118] by decide, show tailOf [100, 105, 118, 46, 107] = [107] by decide] at SP
  have OK := fun V => of_raw k V
  unfold insV stV
  go_enter Tryd.func27, Tryd.ntmps27
  go_wp2_with fail
  refine (N _).mono ?_
  rintro e w3 ⟨rfl, b3⟩
  have ki3 := ki.below b3 ki.lt
  have ks3 := ks.below b3 ks.lt
  have kz3 := kz.below b3 kz.lt
  have B3 := B0.trans (b3.mono B0.size)
  clear ki ks kz B0 b3 N
  go_wp2_with fail
  refine (SP _).mono ?_
  rintro e w4 ⟨rfl, b4⟩
  have ki4 := ki3.below b4 ki3.lt
  have ks4 := ks3.below b4 ks3.lt
  have kz4 := kz3.below b4 kz3.lt
  have B4 := B3.trans (b4.mono B3.size)
  have hz4 := kz4.lt
  clear ki3 ks3 kz3 B3 b4 SP
  go_wp2_with (first
    | (refine wpList_store_blk rfl 27 (.tmp 15) (.tmp 33) rfl w4.heap.size _ (abA ab0) 27 rfl rfl (Blk.new_ _ _ _ rfl) rfl (abA_inf _) (abA_one _) ?_
       intro w5 h5 n5
       have J5 : D1 w w5 (52, y, z, k) s w4.heap.size ab0 := ⟨n5.blk' (ki4.alloc _) (by omega), n5.blk' (ks4.alloc _) (by omega), n5.blk' (kz4.alloc _) (by omega), h5, hz4, (B4.alloc B4.size _).trans (n5.below _ B4.size (by simp; have := B4.size; omega))⟩
       clear h5 n5 ki4 ks4 kz4 B4 hz4
       obtain ⟨i0, i1, i2, i3, s1, s2, s3, s4, v0, v1⟩ := J5.facts))
  generalize w4.heap.size = gv at *
  refine (OK _).mono ?_
  rintro e w6 ⟨rfl, b6⟩
  have J6 := J5.below b6
  clear J5 b6 i0 i1 i2 i3 s1 s2 s3 s4 v0 v1 OK
  have hgv := J6.kv.lt
  go_wp2_with (first
    | (refine wpList_store_blk rfl 27 (.tmp 16) (.tmp 69) rfl w6.heap.size _ (abA (sureA k)) 27 rfl rfl (Blk.new_ _ _ _ rfl) rfl (abA_inf _) (abA_one _) ?_
       intro w7 h7 n7
       have J7 : D2 w w7 (52, y, z, k) s gv (ab0) w6.heap.size (sureA k) := ⟨J6.below (((Below.refl _ w6).alloc (Nat.le_refl _) _).trans (n7.below _ (Nat.le_refl _) (by simp))), h7, hgv⟩
       clear h7 n7 J6 hgv
       obtain ⟨i0, i1, i2, i3, s1, s2, s3, s4, v0, v1⟩ := J7.d.facts
       obtain ⟨o0, o1⟩ := J7.facts)
    | (refine wpList_load_row rfl 40 (.tmp 7) rfl (w.heap.size + 1) rfl 40 (stC s) (0, 0) _ (J7.d.ks.alloc _).blk Tryd.underlying40 rfl (st_inf hl) ?_)
    | (refine wpList_store_blk rfl 72 (.tmp 17) (.tmp 78) rfl (w7.heap.size + 1) nxZ (nxC (.slice (some ⟨w7.heap.size, 0, none⟩) 1 1) s nil0) 72 rfl (congrArg Value.agg (nx_build7 hl _)) (Blk.new_ _ nxZ _ (by simp)) (nxz_size.trans (nx_size hl).symm) (nx_inf hl) nx_one ?_
       intro w8 h8 n8
       have b8 : Below w7.heap.size w7 w8 := (((Below.refl _ w7).alloc (Nat.le_refl _) _).alloc (by simp) _).trans (n8.below _ (by omega) (by simp; omega))
       have hgo := J7.ko.lt
       have hgv := J7.ho
       have hvv := J7.d.hv
       have hlt : w.heap.size + 1 + 1 < w7.heap.size := by omega
       have J8 : D3 w w8 (52, y, z, k) s gv (ab0) w6.heap.size (sureA k) (w7.heap.size + 1) (nxC (.slice (some ⟨w7.heap.size, 0, none⟩) 1 1) s nil0) := ⟨J7.below b8, h8, by omega⟩
       have kp : Blk w8 w7.heap.size #[.int .i64 ((i : Int) + 1)] 3 := n8.blk' ((Blk.new w7 _ _).alloc _) (by omega)
       clear h8 n8 b8 J7 hgo hgv hvv i0 i1 i2 i3 s1 s2 s3 s4 v0 v1 o0 o1
       obtain ⟨i0, i1, i2, i3, s1, s2, s3, s4, v0, v1⟩ := J8.d.d.facts
       obtain ⟨o0, o1⟩ := J8.d.facts
       rw [HK.out] at s1
       replace o0 : _ = some (Value.bool true) := o0
       replace o1 : _ = some (Value.int .u32 k) := o1)
    | (refine wpList_store_ab rfl 27 (.tmp 100) (.tmp 98) rfl (w7.heap.size + 1) 2 (nxC (.slice (some ⟨w7.heap.size, 0, none⟩) 1 1) (s) nil0) 72 (ab0) _ rfl rfl J8.kn (by rw [nx_size (t := s) hl]; omega) ab_inf (nx_sa hl ab0) ?_
       intro w9 h9 n9
       have J9 := J8.put h9 n9
       have kp9 := n9.blk' kp (by omega)
       clear h9 n9 J8 kp i0 i1 i2 i3 s1 s2 s3 s4 v0 v1 o0 o1
       obtain ⟨i0, i1, i2, i3, s1, s2, s3, s4, v0, v1⟩ := J9.d.d.facts
       obtain ⟨o0, o1⟩ := J9.d.facts
       rw [HK.out] at s1
       replace o0 : _ = some (Value.bool true) := o0
       replace o1 : _ = some (Value.int .u32 k) := o1)
    | (refine wpList_load_row rfl 72 (.tmp 17) rfl (w7.heap.size + 1) rfl 72 (nxC (.slice (some ⟨w7.heap.size, 0, none⟩) 1 1) ({ s with a := ab0 }) nil0) (0, 0) _ J9.kn.blk Tryd.underlying72 rfl (nx_inf (t := { s with a := ab0 }) hl) ?_)
    | (refine wpList_store_blk rfl 72 (.tmp 10) (.tmp 245) rfl (w.heap.size + 1 + 1) nxZ (nxC (.slice (some ⟨w7.heap.size, 0, none⟩) 1 1) ({ s with a := ab0 }) nil0) 72 rfl rfl J9.d.d.kz (nxz_size.trans (nx_size (t := { s with a := ab0 }) hl).symm) (nx_inf (t := { s with a := ab0 }) hl) nx_one ?_; intro wz hz nz))
  refine bodyPost_ret (v := .agg (nxC (.slice (some ⟨w7.heap.size, 0, none⟩) 1 1) ({ s with a := ab0 }) nil0)) (results_cell_row rfl _ wz (w.heap.size + 1 + 1) 72 (nxC (.slice (some ⟨w7.heap.size, 0, none⟩) 1 1) ({ s with a := ab0 }) nil0) (0, 0) _ rfl hz.blk Tryd.underlying72 rfl (nx_inf (t := { s with a := ab0 }) hl)) rfl ?_
  exact ⟨_, _, rfl, .inr ⟨_, rfl, nz.blk' kp9 (by omega)⟩, .inl ⟨rfl, rfl⟩, J9.d.d.old.trans (nz.below _ (by omega) J9.d.d.old.size)⟩
set_option maxRecDepth 100000 in
set_option maxHeartbeats 4000000 in
theorem do_52y (y z k : Int) (i : Nat) (hi : i < 64) (hq : insO (52, y, z, k)) (s : StS) (hs : StOk s) (nr arch : Int) (w : World) (hk : s.a.k = true) (hz : ¬ k = 0) (hv : aluB 52 s.a.v k = true) :
    Calls Tryd.prog 27 #[insV 52 y z k, .int .i64 i, stV s, .int .u32 nr, .int .u32 arch] w fun e w' => ∃ P R, e = .returned (.agg (nxC P ({ s with a := sureA (aluV 52 s.a.v k) }) R)) ∧ PL w' P ([(i : Int) + 1]) ∧ RL w' R ([]) ∧ Below w.heap.size w w' := by
  have hl := hs.len
  have hsz := st_size hl
  have HK := Lib.hid hk
  clear hk
  have hz0 : (k == 0) = false := by simpa using hz
  have AL := fun V => refalu_any 52 s.a.v k (by decide) (by decide) hs.a.u ⟨hq.k0, hq.k1⟩ V
  rw [hv] at AL
  obtain ⟨v, hvv⟩ : ∃ v, aluV 52 s.a.v k = v := ⟨_, rfl⟩
  rw [hvv] at AL ⊢
  clear hv hvv
  have OV := fun V => of_raw v V
  have hi' : (i : Int) < 64 := by omega
  have ki := ((Blk.new w (celI (52, y, z, k)).toArray 51).alloc (.cells (stC s) 40)).alloc (.cells nxZ 72)
  have ks := (Blk.new_ (w.alloc (.cells (celI (52, y, z, k)).toArray 51)) (stC s) 40 (n := w.heap.size + 1) (by simp)).alloc (.cells nxZ 72)
  have kz := Blk.new_ ((w.alloc (.cells (celI (52, y, z, k)).toArray 51)).alloc (.cells (stC s) 40)) nxZ 72 (n := w.heap.size + 1 + 1) (by simp)
  have B0 := (((Below.refl w.heap.size w).alloc (Nat.le_refl _) (.cells (celI (52, y, z, k)).toArray 51)).alloc (by simp) (.cells (stC s) 40)).alloc (by simp; omega) (.cells nxZ 72)
  have N := fun V => refname_any 52 V (by decide)
  rw [show nameOf 52 = (⟨#[100, 105, 118, 46, 107]⟩, true) by kernel_rfl] at N
  have SP := fun V => split_any [100, 105, 118, 46, 107] (by decide) V
  rw [show headOf [100, 105, 118, 46, 107] = [100, 105, 118] by decide, show tailOf [100, 105, 118, 46, 107] = [107] by decide] at SP
  have OK := fun V => of_raw k V
  unfold insV stV
  go_enter Tryd.func27, Tryd.ntmps27
  go_wp2_with fail
  refine (N _).mono ?_
  rintro e w3 ⟨rfl, b3⟩
  have ki3 := ki.below b3 ki.lt
  have ks3 := ks.below b3 ks.lt
  have kz3 := kz.below b3 kz.lt
  have B3 := B0.trans (b3.mono B0.size)
  clear ki ks kz B0 b3 N
  go_wp2_with fail
  refine (SP _).mono ?_
  rintro e w4 ⟨rfl, b4⟩
  have ki4 := ki3.below b4 ki3.lt
  have ks4 := ks3.below b4 ks3.lt
  have kz4 := kz3.below b4 kz3.lt
  have B4 := B3.trans (b4.mono B3.size)
  have hz4 := kz4.lt
  clear ki3 ks3 kz3 B3 b4 SP
  go_wp2_with (first
    | (refine wpList_store_blk rfl 27 (.tmp 15) (.tmp 33) rfl w4.heap.size _ (abA ab0) 27 rfl rfl (Blk.new_ _ _ _ rfl) rfl (abA_inf _) (abA_one _) ?_
       intro w5 h5 n5
       have J5 : D1 w w5 (52, y, z, k) s w4.heap.size ab0 := ⟨n5.blk' (ki4.alloc _) (by omega), n5.blk' (ks4.alloc _) (by omega), n5.blk' (kz4.alloc _) (by omega), h5, hz4, (B4.alloc B4.size _).trans (n5.below _ B4.size (by simp; have := B4.size; omega))⟩
       clear h5 n5 ki4 ks4 kz4 B4 hz4
       obtain ⟨i0, i1, i2, i3, s1, s2, s3, s4, v0, v1⟩ := J5.facts))
  generalize w4.heap.size = gv at *
  refine (OK _).mono ?_
  rintro e w6 ⟨rfl, b6⟩
  have J6 := J5.below b6
  clear J5 b6 i0 i1 i2 i3 s1 s2 s3 s4 v0 v1 OK
  have hgv := J6.kv.lt
  go_wp2_with (first
    | (refine wpList_store_blk rfl 27 (.tmp 16) (.tmp 69) rfl w6.heap.size _ (abA (sureA k)) 27 rfl rfl (Blk.new_ _ _ _ rfl) rfl (abA_inf _) (abA_one _) ?_
       intro w7 h7 n7
       have J7 : D2 w w7 (52, y, z, k) s gv (ab0) w6.heap.size (sureA k) := ⟨J6.below (((Below.refl _ w6).alloc (Nat.le_refl _) _).trans (n7.below _ (Nat.le_refl _) (by simp))), h7, hgv⟩
       clear h7 n7 J6 hgv
       obtain ⟨i0, i1, i2, i3, s1, s2, s3, s4, v0, v1⟩ := J7.d.facts
       obtain ⟨o0, o1⟩ := J7.facts)
    | (refine wpList_load_row rfl 40 (.tmp 7) rfl (w.heap.size + 1) rfl 40 (stC s) (0, 0) _ (J7.d.ks.alloc _).blk Tryd.underlying40 rfl (st_inf hl) ?_)
    | (refine wpList_store_blk rfl 72 (.tmp 17) (.tmp 78) rfl (w7.heap.size + 1) nxZ (nxC (.slice (some ⟨w7.heap.size, 0, none⟩) 1 1) s nil0) 72 rfl (congrArg Value.agg (nx_build7 hl _)) (Blk.new_ _ nxZ _ (by simp)) (nxz_size.trans (nx_size hl).symm) (nx_inf hl) nx_one ?_
       intro w8 h8 n8
       have b8 : Below w7.heap.size w7 w8 := (((Below.refl _ w7).alloc (Nat.le_refl _) _).alloc (by simp) _).trans (n8.below _ (by omega) (by simp; omega))
       have hgo := J7.ko.lt
       have hgv := J7.ho
       have hvv := J7.d.hv
       have hlt : w.heap.size + 1 + 1 < w7.heap.size := by omega
       have J8 : D3 w w8 (52, y, z, k) s gv (ab0) w6.heap.size (sureA k) (w7.heap.size + 1) (nxC (.slice (some ⟨w7.heap.size, 0, none⟩) 1 1) s nil0) := ⟨J7.below b8, h8, by omega⟩
       have kp : Blk w8 w7.heap.size #[.int .i64 ((i : Int) + 1)] 3 := n8.blk' ((Blk.new w7 _ _).alloc _) (by omega)
       clear h8 n8 b8 J7 hgo hgv hvv i0 i1 i2 i3 s1 s2 s3 s4 v0 v1 o0 o1
       obtain ⟨i0, i1, i2, i3, s1, s2, s3, s4, v0, v1⟩ := J8.d.d.facts
       obtain ⟨o0, o1⟩ := J8.d.facts
       rw [HK.out] at s1
       replace o0 : _ = some (Value.bool true) := o0
       replace o1 : _ = some (Value.int .u32 k) := o1)
    | (refine wpList_store_ab rfl 27 (.tmp 100) (.tmp 98) rfl (w7.heap.size + 1) 2 (nxC (.slice (some ⟨w7.heap.size, 0, none⟩) 1 1) (s) nil0) 72 (ab0) _ rfl rfl J8.kn (by rw [nx_size (t := s) hl]; omega) ab_inf (nx_sa hl ab0) ?_
       intro w9 h9 n9
       have J9b := J8.put h9 n9
       have kp9b := n9.blk' kp (by omega)
       clear h9 n9 J8 kp i0 i1 i2 i3 s1 s2 s3 s4 v0 v1 o0 o1
       obtain ⟨i0, i1, i2, i3, s1, s2, s3, s4, v0, v1⟩ := J9b.d.d.facts
       obtain ⟨o0, o1⟩ := J9b.d.facts
       rw [HK.out] at s1
       replace o0 : _ = some (Value.bool true) := o0
       replace o1 : _ = some (Value.int .u32 k) := o1))
  refine (AL _).mono ?_
  rintro e wa ⟨rfl, rfl⟩
  go_wp2_with fail
  refine (OV _).mono ?_
  rintro e wb ⟨rfl, bb⟩
  have Ja := J9b.below bb
  have kpa := kp9b.below bb kp9b.lt
  clear J9b kp9b bb OV AL i0 i1 i2 i3 s1 s2 s3 s4 v0 v1 o0 o1
  go_wp2_with (first
    | (refine wpList_store_ab rfl 27 (.tmp 123) (.tmp 121) rfl (w7.heap.size + 1) 2 (nxC (.slice (some ⟨w7.heap.size, 0, none⟩) 1 1) ({ s with a := ab0 }) nil0) 72 (sureA v) _ rfl rfl Ja.kn (by rw [nx_size (t := { s with a := ab0 }) hl]; omega) ab_inf (nx_sa (t := { s with a := ab0 }) hl (sureA v)) ?_
       intro wc h9 n9
       have J9 := Ja.put h9 n9
       have kp9 := n9.blk' kpa (by omega)
       clear h9 n9 Ja kpa)
    | (refine wpList_load_row rfl 72 (.tmp 17) rfl (w7.heap.size + 1) rfl 72 (nxC (.slice (some ⟨w7.heap.size, 0, none⟩) 1 1) ({ s with a := sureA v }) nil0) (0, 0) _ J9.kn.blk Tryd.underlying72 rfl (nx_inf (t := { s with a := sureA v }) hl) ?_)
    | (refine wpList_store_blk rfl 72 (.tmp 10) (.tmp 245) rfl (w.heap.size + 1 + 1) nxZ (nxC (.slice (some ⟨w7.heap.size, 0, none⟩) 1 1) ({ s with a := sureA v }) nil0) 72 rfl rfl J9.d.d.kz (nxz_size.trans (nx_size (t := { s with a := sureA v }) hl).symm) (nx_inf (t := { s with a := sureA v }) hl) nx_one ?_; intro wz hz nz))
  refine bodyPost_ret (v := .agg (nxC (.slice (some ⟨w7.heap.size, 0, none⟩) 1 1) ({ s with a := sureA v }) nil0)) (results_cell_row rfl _ wz (w.heap.size + 1 + 1) 72 (nxC (.slice (some ⟨w7.heap.size, 0, none⟩) 1 1) ({ s with a := sureA v }) nil0) (0, 0) _ rfl hz.blk Tryd.underlying72 rfl (nx_inf (t := { s with a := sureA v }) hl)) rfl ?_
  exact ⟨_, _, rfl, .inr ⟨_, rfl, nz.blk' kp9 (by omega)⟩, .inl ⟨rfl, rfl⟩, J9.d.d.old.trans (nz.below _ (by omega) J9.d.d.old.size)⟩
set_option maxRecDepth 100000 in
set_option maxHeartbeats 4000000 in
theorem do_60n (y z k : Int) (i : Nat) (hi : i < 64) (hq : insO (60, y, z, k)) (s : StS) (hs : StOk s) (nr arch : Int) (w : World) (hk : s.a.k = false) (hx : s.x.k = true) (hz : ¬ s.x.v = 0) :
    Calls Tryd.prog 27 #[insV 60 y z k, .int .i64 i, stV s, .int .u32 nr, .int .u32 arch] w fun e w' => ∃ P R, e = .returned (.agg (nxC P ({ s with a := ab0 }) R)) ∧ PL w' P ([(i : Int) + 1]) ∧ RL w' R ([]) ∧ Below w.heap.size w w' := by
  have hl := hs.len
  have hsz := st_size hl
  have HK := Lib.hid hk
  clear hk
  have HX := Lib.hid hx
  clear hx
  have hz0 : (s.x.v == 0) = false := by simpa using hz
  have hi' : (i : Int) < 64 := by omega
  have ki := ((Blk.new w (celI (60, y, z, k)).toArray 51).alloc (.cells (stC s) 40)).alloc (.cells nxZ 72)
  have ks := (Blk.new_ (w.alloc (.cells (celI (60, y, z, k)).toArray 51)) (stC s) 40 (n := w.heap.size + 1) (by simp)).alloc (.cells nxZ 72)
  have kz := Blk.new_ ((w.alloc (.cells (celI (60, y, z, k)).toArray 51)).alloc (.cells (stC s) 40)) nxZ 72 (n := w.heap.size + 1 + 1) (by simp)
  have B0 := (((Below.refl w.heap.size w).alloc (Nat.le_refl _) (.cells (celI (60, y, z, k)).toArray 51)).alloc (by simp) (.cells (stC s) 40)).alloc (by simp; omega) (.cells nxZ 72)
  have N := fun V => refname_any 60 V (by decide)
  rw [show nameOf 60 = (⟨#[100, 105, 118, 46, 120]⟩, true) by kernel_rfl] at N
  have SP := fun V => split_any [100, 105, 118, 46, 120] (by decide) V
  rw [show headOf [100, 105, 118, 46, 120] = [100, 105, 118] by decide, show tailOf [100, 105, 118, 46, 120] = [120] by decide] at SP
  have OK := fun V => of_raw k V
  unfold insV stV
  go_enter Tryd.func27, Tryd.ntmps27
  go_wp2_with fail
  refine (N _).mono ?_
  rintro e w3 ⟨rfl, b3⟩
  have ki3 := ki.below b3 ki.lt
  have ks3 := ks.below b3 ks.lt
  have kz3 := kz.below b3 kz.lt
  have B3 := B0.trans (b3.mono B0.size)
  clear ki ks kz B0 b3 N
  go_wp2_with fail
  refine (SP _).mono ?_
  rintro e w4 ⟨rfl, b4⟩
  have ki4 := ki3.below b4 ki3.lt
  have ks4 := ks3.below b4 ks3.lt
  have kz4 := kz3.below b4 kz3.lt
  have B4 := B3.trans (b4.mono B3.size)
  have hz4 := kz4.lt
  clear ki3 ks3 kz3 B3 b4 SP
  go_wp2_with (first
    | (refine wpList_store_blk rfl 27 (.tmp 15) (.tmp 33) rfl w4.heap.size _ (abA ab0) 27 rfl rfl (Blk.new_ _ _ _ rfl) rfl (abA_inf _) (abA_one _) ?_
       intro w5 h5 n5
       have J5 : D1 w w5 (60, y, z, k) s w4.heap.size ab0 := ⟨n5.blk' (ki4.alloc _) (by omega), n5.blk' (ks4.alloc _) (by omega), n5.blk' (kz4.alloc _) (by omega), h5, hz4, (B4.alloc B4.size _).trans (n5.below _ B4.size (by simp; have := B4.size; omega))⟩
       clear h5 n5 ki4 ks4 kz4 B4 hz4
       obtain ⟨i0, i1, i2, i3, s1, s2, s3, s4, v0, v1⟩ := J5.facts))
  generalize w4.heap.size = gv at *
  refine (OK _).mono ?_
  rintro e w6 ⟨rfl, b6⟩
  have J6 := J5.below b6
  clear J5 b6 i0 i1 i2 i3 s1 s2 s3 s4 v0 v1 OK
  have hgv := J6.kv.lt
  go_wp2_with (first
    | (refine wpList_store_blk rfl 27 (.tmp 16) (.tmp 69) rfl w6.heap.size _ (abA (sureA k)) 27 rfl rfl (Blk.new_ _ _ _ rfl) rfl (abA_inf _) (abA_one _) ?_
       intro w7a h7 n7
       have J7a : D2 w w7a (60, y, z, k) s gv (ab0) w6.heap.size (sureA k) := ⟨J6.below (((Below.refl _ w6).alloc (Nat.le_refl _) _).trans (n7.below _ (Nat.le_refl _) (by simp))), h7, hgv⟩
       clear h7 n7 J6 hgv
       obtain ⟨i0, i1, i2, i3, s1, s2, s3, s4, v0, v1⟩ := J7a.d.facts
       obtain ⟨o0, o1⟩ := J7a.facts)
    | (refine wpList_store_blk rfl 27 (.tmp 16) (.tmp 73) rfl w6.heap.size _ (abA s.x) 27 rfl rfl J7a.ko rfl (abA_inf _) (abA_one _) ?_
       intro w7 h7 n7
       have J7 := J7a.put h7 n7
       clear h7 n7 J7a i0 i1 i2 i3 s1 s2 s3 s4 v0 v1 o0 o1
       obtain ⟨i0, i1, i2, i3, s1, s2, s3, s4, v0, v1⟩ := J7.d.facts
       obtain ⟨o0, o1⟩ := J7.facts)
    | (refine wpList_load_row rfl 40 (.tmp 7) rfl (w.heap.size + 1) rfl 40 (stC s) (0, 0) _ (J7.d.ks.alloc _).blk Tryd.underlying40 rfl (st_inf hl) ?_)
    | (refine wpList_store_blk rfl 72 (.tmp 17) (.tmp 78) rfl (w7.heap.size + 1) nxZ (nxC (.slice (some ⟨w7.heap.size, 0, none⟩) 1 1) s nil0) 72 rfl (congrArg Value.agg (nx_build7 hl _)) (Blk.new_ _ nxZ _ (by simp)) (nxz_size.trans (nx_size hl).symm) (nx_inf hl) nx_one ?_
       intro w8 h8 n8
       have b8 : Below w7.heap.size w7 w8 := (((Below.refl _ w7).alloc (Nat.le_refl _) _).alloc (by simp) _).trans (n8.below _ (by omega) (by simp; omega))
       have hgo := J7.ko.lt
       have hgv := J7.ho
       have hvv := J7.d.hv
       have hlt : w.heap.size + 1 + 1 < w7.heap.size := by omega
       have J8 : D3 w w8 (60, y, z, k) s gv (ab0) w6.heap.size (s.x) (w7.heap.size + 1) (nxC (.slice (some ⟨w7.heap.size, 0, none⟩) 1 1) s nil0) := ⟨J7.below b8, h8, by omega⟩
       have kp : Blk w8 w7.heap.size #[.int .i64 ((i : Int) + 1)] 3 := n8.blk' ((Blk.new w7 _ _).alloc _) (by omega)
       clear h8 n8 b8 J7 hgo hgv hvv i0 i1 i2 i3 s1 s2 s3 s4 v0 v1 o0 o1
       obtain ⟨i0, i1, i2, i3, s1, s2, s3, s4, v0, v1⟩ := J8.d.d.facts
       obtain ⟨o0, o1⟩ := J8.d.facts
       rw [HK.out] at s1
       rw [HX.out] at o0)
    | (refine wpList_store_ab rfl 27 (.tmp 100) (.tmp 98) rfl (w7.heap.size + 1) 2 (nxC (.slice (some ⟨w7.heap.size, 0, none⟩) 1 1) (s) nil0) 72 (ab0) _ rfl rfl J8.kn (by rw [nx_size (t := s) hl]; omega) ab_inf (nx_sa hl ab0) ?_
       intro w9 h9 n9
       have J9 := J8.put h9 n9
       have kp9 := n9.blk' kp (by omega)
       clear h9 n9 J8 kp i0 i1 i2 i3 s1 s2 s3 s4 v0 v1 o0 o1
       obtain ⟨i0, i1, i2, i3, s1, s2, s3, s4, v0, v1⟩ := J9.d.d.facts
       obtain ⟨o0, o1⟩ := J9.d.facts
       rw [HK.out] at s1
       rw [HX.out] at o0)
    | (refine wpList_load_row rfl 72 (.tmp 17) rfl (w7.heap.size + 1) rfl 72 (nxC (.slice (some ⟨w7.heap.size, 0, none⟩) 1 1) ({ s with a := ab0 }) nil0) (0, 0) _ J9.kn.blk Tryd.underlying72 rfl (nx_inf (t := { s with a := ab0 }) hl) ?_)
    | (refine wpList_store_blk rfl 72 (.tmp 10) (.tmp 245) rfl (w.heap.size + 1 + 1) nxZ (nxC (.slice (some ⟨w7.heap.size, 0, none⟩) 1 1) ({ s with a := ab0 }) nil0) 72 rfl rfl J9.d.d.kz (nxz_size.trans (nx_size (t := { s with a := ab0 }) hl).symm) (nx_inf (t := { s with a := ab0 }) hl) nx_one ?_; intro wz hz nz))
  refine bodyPost_ret (v := .agg (nxC (.slice (some ⟨w7.heap.size, 0, none⟩) 1 1) ({ s with a := ab0 }) nil0)) (results_cell_row rfl _ wz (w.heap.size + 1 + 1) 72 (nxC (.slice (some ⟨w7.heap.size, 0, none⟩) 1 1) ({ s with a := ab0 }) nil0) (0, 0) _ rfl hz.blk Tryd.underlying72 rfl (nx_inf (t := { s with a := ab0 }) hl)) rfl ?_
  exact ⟨_, _, rfl, .inr ⟨_, rfl, nz.blk' kp9 (by omega)⟩, .inl ⟨rfl, rfl⟩, J9.d.d.old.trans (nz.below _ (by omega) J9.d.d.old.size)⟩
set_option maxRecDepth 100000 in
set_option maxHeartbeats 4000000 in
theorem do_60y (y z k : Int) (i : Nat) (hi : i < 64) (hq : insO (60, y, z, k)) (s : StS) (hs : StOk s) (nr arch : Int) (w : World) (hk : s.a.k = true) (hx : s.x.k = true) (hz : ¬ s.x.v = 0) (hv : aluB 60 s.a.v s.x.v = true) :
    Calls Tryd.prog 27 #[insV 60 y z k, .int .i64 i, stV s, .int .u32 nr, .int .u32 arch] w fun e w' => ∃ P R, e = .returned (.agg (nxC P ({ s with a := sureA (aluV 60 s.a.v s.x.v) }) R)) ∧ PL w' P ([(i : Int) + 1]) ∧ RL w' R ([]) ∧ Below w.heap.size w w' := by
  have hl := hs.len
  have hsz := st_size hl
  have HK := Lib.hid hk
  clear hk
  have HX := Lib.hid hx
  clear hx
  have hz0 : (s.x.v == 0) = false := by simpa using hz
  have AL := fun V => refalu_any 60 s.a.v s.x.v (by decide) (by decide) hs.a.u hs.x.u V
  rw [hv] at AL
  obtain ⟨v, hvv⟩ : ∃ v, aluV 60 s.a.v s.x.v = v := ⟨_, rfl⟩
  rw [hvv] at AL ⊢
  clear hv hvv
  have OV := fun V => of_raw v V
  have hi' : (i : Int) < 64 := by omega
  have ki := ((Blk.new w (celI (60, y, z, k)).toArray 51).alloc (.cells (stC s) 40)).alloc (.cells nxZ 72)
  have ks := (Blk.new_ (w.alloc (.cells (celI (60, y, z, k)).toArray 51)) (stC s) 40 (n := w.heap.size + 1) (by simp)).alloc (.cells nxZ 72)
  have kz := Blk.new_ ((w.alloc (.cells (celI (60, y, z, k)).toArray 51)).alloc (.cells (stC s) 40)) nxZ 72 (n := w.heap.size + 1 + 1) (by simp)
  have B0 := (((Below.refl w.heap.size w).alloc (Nat.le_refl _) (.cells (celI (60, y, z, k)).toArray 51)).alloc (by simp) (.cells (stC s) 40)).alloc (by simp; omega) (.cells nxZ 72)
  have N := fun V => refname_any 60 V (by decide)
  rw [show nameOf 60 = (⟨#[100, 105, 118, 46, 120]⟩, true) by kernel_rfl] at N
  have SP := fun V => split_any [100, 105, 118, 46, 120] (by decide) V
  rw [show headOf [100, 105, 118, 46, 120] = [100, 105, 118] by decide, show tailOf [100, 105, 118, 46, 120] = [120] by decide] at SP
  have OK := fun V => of_raw k V
  unfold insV stV
  go_enter Tryd.func27, Tryd.ntmps27
  go_wp2_with fail
  refine (N _).mono ?_
  rintro e w3 ⟨rfl, b3⟩
  have ki3 := ki.below b3 ki.lt
  have ks3 := ks.below b3 ks.lt
  have kz3 := kz.below b3 kz.lt
  have B3 := B0.trans (b3.mono B0.size)
  clear ki ks kz B0 b3 N
  go_wp2_with fail
  refine (SP _).mono ?_
  rintro e w4 ⟨rfl, b4⟩
  have ki4 := ki3.below b4 ki3.lt
  have ks4 := ks3.below b4 ks3.lt
  have kz4 := kz3.below b4 kz3.lt
  have B4 := B3.trans (b4.mono B3.size)
  have hz4 := kz4.lt
  clear ki3 ks3 kz3 B3 b4 SP
  go_wp2_with (first
    | (refine wpList_store_blk rfl 27 (.tmp 15) (.tmp 33) rfl w4.heap.size _ (abA ab0) 27 rfl rfl (Blk.new_ _ _ _ rfl) rfl (abA_inf _) (abA_one _) ?_
       intro w5 h5 n5
       have J5 : D1 w w5 (60, y, z, k) s w4.heap.size ab0 := ⟨n5.blk' (ki4.alloc _) (by omega), n5.blk' (ks4.alloc _) (by omega), n5.blk' (kz4.alloc _) (by omega), h5, hz4, (B4.alloc B4.size _).trans (n5.below _ B4.size (by simp; have := B4.size; omega))⟩
       clear h5 n5 ki4 ks4 kz4 B4 hz4
       obtain ⟨i0, i1, i2, i3, s1, s2, s3, s4, v0, v1⟩ := J5.facts))
  generalize w4.heap.size = gv at *
  refine (OK _).mono ?_
  rintro e w6 ⟨rfl, b6⟩
  have J6 := J5.below b6
  clear J5 b6 i0 i1 i2 i3 s1 s2 s3 s4 v0 v1 OK
  have hgv := J6.kv.lt
  go_wp2_with (first
    | (refine wpList_store_blk rfl 27 (.tmp 16) (.tmp 69) rfl w6.heap.size _ (abA (sureA k)) 27 rfl rfl (Blk.new_ _ _ _ rfl) rfl (abA_inf _) (abA_one _) ?_
       intro w7a h7 n7
       have J7a : D2 w w7a (60, y, z, k) s gv (ab0) w6.heap.size (sureA k) := ⟨J6.below (((Below.refl _ w6).alloc (Nat.le_refl _) _).trans (n7.below _ (Nat.le_refl _) (by simp))), h7, hgv⟩
       clear h7 n7 J6 hgv
       obtain ⟨i0, i1, i2, i3, s1, s2, s3, s4, v0, v1⟩ := J7a.d.facts
       obtain ⟨o0, o1⟩ := J7a.facts)
    | (refine wpList_store_blk rfl 27 (.tmp 16) (.tmp 73) rfl w6.heap.size _ (abA s.x) 27 rfl rfl J7a.ko rfl (abA_inf _) (abA_one _) ?_
       intro w7 h7 n7
       have J7 := J7a.put h7 n7
       clear h7 n7 J7a i0 i1 i2 i3 s1 s2 s3 s4 v0 v1 o0 o1
       obtain ⟨i0, i1, i2, i3, s1, s2, s3, s4, v0, v1⟩ := J7.d.facts
       obtain ⟨o0, o1⟩ := J7.facts)
    | (refine wpList_load_row rfl 40 (.tmp 7) rfl (w.heap.size + 1) rfl 40 (stC s) (0, 0) _ (J7.d.ks.alloc _).blk Tryd.underlying40 rfl (st_inf hl) ?_)
    | (refine wpList_store_blk rfl 72 (.tmp 17) (.tmp 78) rfl (w7.heap.size + 1) nxZ (nxC (.slice (some ⟨w7.heap.size, 0, none⟩) 1 1) s nil0) 72 rfl (congrArg Value.agg (nx_build7 hl _)) (Blk.new_ _ nxZ _ (by simp)) (nxz_size.trans (nx_size hl).symm) (nx_inf hl) nx_one ?_
       intro w8 h8 n8
       have b8 : Below w7.heap.size w7 w8 := (((Below.refl _ w7).alloc (Nat.le_refl _) _).alloc (by simp) _).trans (n8.below _ (by omega) (by simp; omega))
       have hgo := J7.ko.lt
       have hgv := J7.ho
       have hvv := J7.d.hv
       have hlt : w.heap.size + 1 + 1 < w7.heap.size := by omega
       have J8 : D3 w w8 (60, y, z, k) s gv (ab0) w6.heap.size (s.x) (w7.heap.size + 1) (nxC (.slice (some ⟨w7.heap.size, 0, none⟩) 1 1) s nil0) := ⟨J7.below b8, h8, by omega⟩
       have kp : Blk w8 w7.heap.size #[.int .i64 ((i : Int) + 1)] 3 := n8.blk' ((Blk.new w7 _ _).alloc _) (by omega)
       clear h8 n8 b8 J7 hgo hgv hvv i0 i1 i2 i3 s1 s2 s3 s4 v0 v1 o0 o1
       obtain ⟨i0, i1, i2, i3, s1, s2, s3, s4, v0, v1⟩ := J8.d.d.facts
       obtain ⟨o0, o1⟩ := J8.d.facts
       rw [HK.out] at s1
       rw [HX.out] at o0)
    | (refine wpList_store_ab rfl 27 (.tmp 100) (.tmp 98) rfl (w7.heap.size + 1) 2 (nxC (.slice (some ⟨w7.heap.size, 0, none⟩) 1 1) (s) nil0) 72 (ab0) _ rfl rfl J8.kn (by rw [nx_size (t := s) hl]; omega) ab_inf (nx_sa hl ab0) ?_
       intro w9 h9 n9
       have J9b := J8.put h9 n9
       have kp9b := n9.blk' kp (by omega)
       clear h9 n9 J8 kp i0 i1 i2 i3 s1 s2 s3 s4 v0 v1 o0 o1
       obtain ⟨i0, i1, i2, i3, s1, s2, s3, s4, v0, v1⟩ := J9b.d.d.facts
       obtain ⟨o0, o1⟩ := J9b.d.facts
       rw [HK.out] at s1
       rw [HX.out] at o0))
  refine (AL _).mono ?_
  rintro e wa ⟨rfl, rfl⟩
  go_wp2_with fail
  refine (OV _).mono ?_
  rintro e wb ⟨rfl, bb⟩
  have Ja := J9b.below bb
  have kpa := kp9b.below bb kp9b.lt
  clear J9b kp9b bb OV AL i0 i1 i2 i3 s1 s2 s3 s4 v0 v1 o0 o1
  go_wp2_with (first
    | (refine wpList_store_ab rfl 27 (.tmp 123) (.tmp 121) rfl (w7.heap.size + 1) 2 (nxC (.slice (some ⟨w7.heap.size, 0, none⟩) 1 1) ({ s with a := ab0 }) nil0) 72 (sureA v) _ rfl rfl Ja.kn (by rw [nx_size (t := { s with a := ab0 }) hl]; omega) ab_inf (nx_sa (t := { s with a := ab0 }) hl (sureA v)) ?_
       intro wc h9 n9
       have J9 := Ja.put h9 n9
       have kp9 := n9.blk' kpa (by omega)
       clear h9 n9 Ja kpa)
    | (refine wpList_load_row rfl 72 (.tmp 17) rfl (w7.heap.size + 1) rfl 72 (nxC (.slice (some ⟨w7.heap.size, 0, none⟩) 1 1) ({ s with a := sureA v }) nil0) (0, 0) _ J9.kn.blk Tryd.underlying72 rfl (nx_inf (t := { s with a := sureA v }) hl) ?_)
    | (refine wpList_store_blk rfl 72 (.tmp 10) (.tmp 245) rfl (w.heap.size + 1 + 1) nxZ (nxC (.slice (some ⟨w7.heap.size, 0, none⟩) 1 1) ({ s with a := sureA v }) nil0) 72 rfl rfl J9.d.d.kz (nxz_size.trans (nx_size (t := { s with a := sureA v }) hl).symm) (nx_inf (t := { s with a := sureA v }) hl) nx_one ?_; intro wz hz nz))
  refine bodyPost_ret (v := .agg (nxC (.slice (some ⟨w7.heap.size, 0, none⟩) 1 1) ({ s with a := sureA v }) nil0)) (results_cell_row rfl _ wz (w.heap.size + 1 + 1) 72 (nxC (.slice (some ⟨w7.heap.size, 0, none⟩) 1 1) ({ s with a := sureA v }) nil0) (0, 0) _ rfl hz.blk Tryd.underlying72 rfl (nx_inf (t := { s with a := sureA v }) hl)) rfl ?_
  exact ⟨_, _, rfl, .inr ⟨_, rfl, nz.blk' kp9 (by omega)⟩, .inl ⟨rfl, rfl⟩, J9.d.d.old.trans (nz.below _ (by omega) J9.d.d.old.size)⟩
end Go.Proofs.YtehcijockeecpaaDoor
